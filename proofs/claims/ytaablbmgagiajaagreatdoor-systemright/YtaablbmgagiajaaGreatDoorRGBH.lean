import Derived.Test.YtaablbmgagiajaaGreatDoorRGBG
import Derived.Deep.RegionHeld
namespace Go.Proofs.YtaablbmgagiajaaGreatDoor
open Go.RowKit Go.Deep
def smpP (k j : Nat) (R : RS) : Pk := ⟨k, j, bytesF (sampleR R)⟩
def secP (L : RC) (k : Nat) (R : RS) : Pk := ⟨k, 3, bytesF (secondR L R)⟩
def tickQ (L : RC) (k : Nat) (R : RS) : List Pk := (if k = 0 then [smpP k 1 R, smpP k 2 R] else if k = 1 then [smpP k 0 R, smpP k 2 R] else [smpP k 0 R, smpP k 1 R]) ++ (if saysB R then [secP L k R] else [])
theorem put_end {p : Pk} {l : List Pk} (h : l.length < 120) : putP p l = l ++ [p] := if_neg (by omega)
theorem tickNet_eq (L : RC) {k : Nat} (hk : k < 3) (R : RS) {l : List Pk} (hl : l.length ≤ 100) : tickNet L k R l = l ++ tickQ L k R := by
  have ho : othersN k (sampleR R) l 3 = l ++ (if k = 0 then [smpP k 1 R, smpP k 2 R] else if k = 1 then [smpP k 0 R, smpP k 2 R] else [smpP k 0 R, smpP k 1 R]) := by
    rcases (by omega : k = 0 ∨ k = 1 ∨ k = 2) with rfl | rfl | rfl
    · show putP (smpP 0 2 R) (putP (smpP 0 1 R) l) = _
      rw [put_end (p := smpP 0 1 R) (by omega), put_end (by simp; omega)]; simp
    · show putP (smpP 1 2 R) (putP (smpP 1 0 R) l) = _
      rw [put_end (p := smpP 1 0 R) (by omega), put_end (by simp; omega)]; simp
    · show putP (smpP 2 1 R) (putP (smpP 2 0 R) l) = _
      rw [put_end (p := smpP 2 0 R) (by omega), put_end (by simp; omega)]; simp
  unfold tickNet tickQ
  rw [ho]
  split
  · unfold sendN
    rw [put_end, List.append_assoc]
    · rfl
    · rw [List.length_append]
      split
      · simp; omega
      · split <;> (simp; omega)
  · simp
def ticksSy (L : RC) (S : SY) : SY := tickSy L 2 (tickSy L 1 (tickSy L 0 S))
def oldQ (L : RC) (S : SY) : List Pk := tickQ L 0 (S.rp 0) ++ (tickQ L 1 (S.rp 1) ++ tickQ L 2 (S.rp 2))
theorem tickQ_len (L : RC) (k : Nat) (R : RS) : (tickQ L k R).length ≤ 3 := by
  unfold tickQ
  rw [List.length_append]
  split
  · split <;> simp
  · split <;> (split <;> simp)
theorem ticks_net (L : RC) {S : SY} (h : S.net = []) : (ticksSy L S).net = oldQ L (ticksSy L S) := by
  have l0 := tickQ_len L 0 (tickS L (S.rp 0))
  have l1 := tickQ_len L 1 (tickS L (S.rp 1))
  have e0 : (tickSy L 0 S).net = tickQ L 0 (tickS L (S.rp 0)) := by
    show tickNet L 0 _ S.net = _
    rw [h, tickNet_eq L (by omega) _ (by simp)]; simp
  have e1 : (tickSy L 1 (tickSy L 0 S)).net = tickQ L 0 (tickS L (S.rp 0)) ++ tickQ L 1 (tickS L (S.rp 1)) := by
    show tickNet L 1 (tickS L (S.rp 1)) (tickSy L 0 S).net = _
    rw [e0, tickNet_eq L (by omega) _ (by omega)]
  show tickNet L 2 (tickS L (S.rp 2)) (tickSy L 1 (tickSy L 0 S)).net = _
  rw [e1, tickNet_eq L (by omega) _ (by rw [List.length_append]; omega), List.append_assoc]
  rfl
theorem ticks_rp (L : RC) (S : SY) {k : Nat} (hk : k < 3) : (ticksSy L S).rp k = tickS L (S.rp k) := by
  rcases (by omega : k = 0 ∨ k = 1 ∨ k = 2) with rfl | rfl | rfl <;> rfl
theorem ticks_v (L : RC) (S : SY) : (ticksSy L S).v = S.v := rfl
def OldP (L : RC) (S : SY) (p : Pk) : Prop := ∃ k, k < 3 ∧ ((∃ j, j < 3 ∧ j ≠ k ∧ p = smpP k j (S.rp k)) ∨ (saysB (S.rp k) = true ∧ p = secP L k (S.rp k)))
theorem tickQ_mem {L : RC} {S : SY} {k : Nat} (hk : k < 3) {p : Pk} (h : p ∈ tickQ L k (S.rp k)) : OldP L S p := by
  unfold tickQ at h
  rcases List.mem_append.1 h with h | h
  · refine ⟨k, hk, .inl ?_⟩
    rcases (by omega : k = 0 ∨ k = 1 ∨ k = 2) with rfl | rfl | rfl
    · simp at h; rcases h with h | h
      · exact ⟨1, by omega, by omega, h⟩
      · exact ⟨2, by omega, by omega, h⟩
    · simp at h; rcases h with h | h
      · exact ⟨0, by omega, by omega, h⟩
      · exact ⟨2, by omega, by omega, h⟩
    · simp at h; rcases h with h | h
      · exact ⟨0, by omega, by omega, h⟩
      · exact ⟨1, by omega, by omega, h⟩
  · split at h
    · rename_i hs
      exact ⟨k, hk, .inr ⟨hs, List.mem_singleton.1 h⟩⟩
    · simp at h
theorem oldQ_mem {L : RC} {S : SY} {p : Pk} (h : p ∈ oldQ L S) : OldP L S p := by
  unfold oldQ at h
  rcases List.mem_append.1 h with h | h
  · exact tickQ_mem (by omega) h
  · rcases List.mem_append.1 h with h | h
    · exact tickQ_mem (by omega) h
    · exact tickQ_mem (by omega) h
theorem mem_oldQ {L : RC} {S : SY} {k : Nat} (hk : k < 3) {p : Pk} (h : p ∈ tickQ L k (S.rp k)) : p ∈ oldQ L S := by
  unfold oldQ
  rcases (by omega : k = 0 ∨ k = 1 ∨ k = 2) with rfl | rfl | rfl
  · exact List.mem_append_left _ h
  · exact List.mem_append_right _ (List.mem_append_left _ h)
  · exact List.mem_append_right _ (List.mem_append_right _ h)
theorem smp_in {L : RC} {k j : Nat} (hk : k < 3) (hj : j < 3) (hkj : j ≠ k) (R : RS) : smpP k j R ∈ tickQ L k R := by
  unfold tickQ
  refine List.mem_append_left _ ?_
  rcases (by omega : k = 0 ∨ k = 1 ∨ k = 2) with rfl | rfl | rfl
  · rcases (by omega : j = 1 ∨ j = 2) with rfl | rfl <;> simp
  · rcases (by omega : j = 0 ∨ j = 2) with rfl | rfl <;> simp
  · rcases (by omega : j = 0 ∨ j = 1) with rfl | rfl <;> simp
theorem sec_in {L : RC} {k : Nat} {R : RS} (h : saysB R = true) : secP L k R ∈ tickQ L k R := by
  unfold tickQ
  refine List.mem_append_right _ ?_
  rw [if_pos h]; simp
theorem oldQ_len (L : RC) (S : SY) : (oldQ L S).length ≤ 9 := by
  unfold oldQ
  have a := tickQ_len L 0 (S.rp 0)
  have b := tickQ_len L 1 (S.rp 1)
  have c := tickQ_len L 2 (S.rp 2)
  rw [List.length_append, List.length_append]; omega
theorem may_two {x c v : Int} {n : Nat} (h1 : 0 ≤ x ∧ x ≤ 3) (hn : (n : Int) ≤ 1048576) (hc : 0 ≤ c ∧ c ≤ 1048576) (hv : 0 ≤ v ∧ v ≤ 1048576) : mayB (inF 1 x (n : Int) c v) = true := by
  have hnum : numsF (inF 1 x (n : Int) c v) = [1, x, (n : Int), c, v] := nums_one rfl
  unfold mayB
  rw [hnum]
  have hfr : framedF [1, x, (n : Int), c, v] = inF 1 x (n : Int) c v := framed_one (l := [1, x, (n : Int), c, v]) rfl
  rw [hfr]
  have hh : headB (inF 1 x (n : Int) c v) = true := by
    unfold headB
    show ((decide ((1 : Int) ≤ 1) && decide ((1 : Int) ≤ 5)) && (decide (0 ≤ x) && decide (x ≤ 3))) = true
    simp only [Bool.and_eq_true, decide_eq_true_eq]
    omega
  rw [hh, (eqB_iff _ _).2 fun _ _ => rfl]
  simp only [List.all_cons, List.all_nil, fitsB, Bool.and_eq_true, decide_eq_true_eq, and_true, true_and]
  omega
section
variable {L : RC} {W : Seen} {liar win T n k : Nat} {S : SY}
theorem RpInv.smp_may {tr : List Cm} {R : RS} (h : RpInv L W liar tr T k R) (hL : LOk L) (hk : k < 3) (ht : tr.length ≤ 1000) : mayB (sampleR R) = true := by
  obtain ⟨n, c1, c2, _⟩ := h.cyc
  have hf := hL.few
  have p1 : 2 ^ L.s ≤ 2 ^ 12 := Nat.pow_le_pow_right (by decide) (by omega)
  have p2 : 2 ^ L.n ≤ 2 ^ 8 := Nat.pow_le_pow_right (by decide) (by omega)
  have := h.smp k hk
  unfold sampleR
  rw [c1, h.id]
  exact may_two (by omega) (by omega) (by omega) (by omega)
theorem RpInv.sec_may {tr : List Cm} {R : RS} (h : RpInv L W liar tr T k R) (hL : LOk L) (hk : k < 3) (ht : tr.length ≤ 1000) (hs : saysB R = true) : mayB (secondR L R) = true := by
  obtain ⟨n, c1, c2, c3, _⟩ := h.cyc
  have hf := hL.few
  have p1 : 2 ^ L.s ≤ 2 ^ 12 := Nat.pow_le_pow_right (by decide) (by omega)
  have p2 : 2 ^ L.n ≤ 2 ^ 8 := Nat.pow_le_pow_right (by decide) (by omega)
  unfold secondR
  split
  · unfold voteR
    rw [c1, h.id]
    have a1 : fuseC R < 2 ^ L.s := two3_lt (h.smp 0 (by omega)).1 (h.smp 1 (by omega)).1
    have a2 : fuseV R < 2 ^ L.n := two3_lt (h.smp 0 (by omega)).2 (h.smp 1 (by omega)).2
    have a3 : outR L R (fuseC R) (fuseV R) < 2 ^ L.n := showTo_lt _ _ _ _ _ _ (Nat.le_refl _)
    exact may_three (.inl rfl) (by omega) (by omega) (by omega) (by omega) (by omega)
  · rename_i hv
    split
    · rw [c1, h.id]; exact ask_may hk (by omega)
    · rename_i ht
      unfold saysB at hs
      rw [Bool.or_eq_true] at hs
      rcases hs with e | e
      · exact absurd e hv
      · exact absurd (of_decide_eq_true e) ht
theorem sec_nums {R : RS} (hs : saysB R = true) : (secondR L R) 1 = (R.id : Int) ∧ (secondR L R) 2 = R.cycle ∧ ((votesB R = true ∧ (secondR L R) 0 = 2) ∨ (votesB R = false ∧ (secondR L R) 0 = 4)) := by
  unfold secondR
  split
  · rename_i hv; exact ⟨rfl, rfl, .inl ⟨hv, rfl⟩⟩
  · rename_i hv
    split
    · exact ⟨rfl, rfl, .inr ⟨by simpa using hv, rfl⟩⟩
    · rename_i ht
      unfold saysB at hs
      rw [Bool.or_eq_true] at hs
      rcases hs with e | e
      · exact absurd e hv
      · exact absurd (of_decide_eq_true e) ht
def gotS (S1 : SY) (j k : Nat) : Smp := ⟨true, (S1.rp j).ticks, ((S1.rp k).smp k).c, ((S1.rp k).smp k).v⟩
def sameBut (A B : RS) : Prop := ∃ f, A = { B with smp := f }
structure NotYet (L : RC) (S1 : SY) (o : List Pk) (S : SY) : Prop where
  tr : S.v.tr = S1.v.tr
  left : S.v.left = S1.v.left
  lat : S.v.lat = false
  voted : ∀ k, k < 3 → votesB (S1.rp k) = true → (S1.rp k).cycle = (S1.v.tr.length : Int) → secP L k (S1.rp k) ∈ o ∨ (S.v.b k = true ∧ S.v.x k = cmF (secondR L (S1.rp k)))
  told : ∀ k, k < 3 → saysB (S1.rp k) = true → (S1.rp k).cycle < (S1.v.tr.length : Int) → secP L k (S1.rp k) ∈ o ∨ doneP S1.v.tr k (S1.v.tr.length - 1) ∈ S.net
  whom : ∀ p ∈ S.net, p.src = 3 → saysB (S1.rp p.dst) = true
structure JustNow (L : RC) (win : Nat) (S1 S : SY) : Prop where
  who : ∃ k, k < 3 ∧ votesB (S1.rp k) = true ∧ (S1.rp k).cycle = (S1.v.tr.length : Int) ∧ S.v.tr = S1.v.tr ++ [cmF (secondR L (S1.rp k))]
  left : S.v.left = win
  lat : S.v.lat = false
  none : ∀ k, S.v.b k = false
  told : ∀ j, j < 3 → doneP S.v.tr j S1.v.tr.length ∈ S.net
structure First (L : RC) (win : Nat) (S1 : SY) (o : List Pk) (S : SY) : Prop where
  net : ∃ new, S.net = o ++ new ∧ new.length + 3 * o.length ≤ 27 ∧ ∀ p ∈ new, ∃ r n, r < 3 ∧ n < S.v.tr.length ∧ p = doneP S.v.tr r n
  old : ∀ p ∈ o, OldP L S1 p
  rp : ∀ j, j < 3 → sameBut (S.rp j) (S1.rp j) ∧ (S.rp j).smp j = (S1.rp j).smp j
  came : ∀ j k, j < 3 → k < 3 → j ≠ k → (S1.rp k).cycle = (S1.rp j).cycle → smpP k j (S1.rp k) ∈ o ∨ (S.rp j).smp k = gotS S1 j k
  vot : NotYet L S1 o S ∨ JustNow L win S1 S
theorem sameBut.cycle {A B : RS} (h : sameBut A B) : A.cycle = B.cycle ∧ A.ticks = B.ticks ∧ A.id = B.id ∧ A.ahead = B.ahead ∧ A.sx = B.sx ∧ A.sy = B.sy := by
  obtain ⟨f, rfl⟩ := h; exact ⟨rfl, rfl, rfl, rfl, rfl, rfl⟩
end
section
variable {L : RC} {W : Seen} {win T n k : Nat} {S S1 : SY}
theorem come_smp {j : Nat} {A : RS} {l : List Pk} (hj : j < 3) (hk : k < 3) (hjk : j ≠ k) (hm : mayB (sampleR A) = true) (hA : A.id = k) (hid : (S.rp j).id = j) (hc : (A.smp k).c < 2 ^ L.s) (hv : (A.smp k).v < 2 ^ L.n) (hL : LOk L) :
    comeSy L win (smpP k j A) ⟨S.rp, S.v, l⟩ = ⟨upd S.rp j (if A.cycle = (S.rp j).cycle then putR k (A.smp k).c (A.smp k).v (S.rp j) else S.rp j), S.v, l⟩ := by
  have hf := hL.few
  obtain ⟨q1, q2⟩ := bytes_may hm
  have hnn : ¬ isNone (smpP k j A) := by
    rintro (e | e)
    · exact e q1
    · apply e
      rw [show (smpP k j A).b = bytesF (sampleR A) from rfl, q2 1 (by omega)]
      show (A.id : Int) = (k : Int)
      rw [hA]
  have e0 : (decF (smpP k j A).b).2 0 = 1 := q2 0 (by omega)
  have e1 : (decF (smpP k j A).b).2 1 = (k : Int) := by rw [show (smpP k j A).b = bytesF (sampleR A) from rfl, q2 1 (by omega)]; show (A.id : Int) = _; rw [hA]
  have e2 : (decF (smpP k j A).b).2 2 = A.cycle := q2 2 (by omega)
  have e3 : (decF (smpP k j A).b).2 3 = ((A.smp k).c : Int) := by rw [show (smpP k j A).b = bytesF (sampleR A) from rfl, q2 3 (by omega)]; show ((A.smp A.id).c : Int) = _; rw [hA]
  have e4 : (decF (smpP k j A).b).2 4 = ((A.smp k).v : Int) := by rw [show (smpP k j A).b = bytesF (sampleR A) from rfl, q2 4 (by omega)]; show ((A.smp A.id).v : Int) = _; rw [hA]
  have hd : (smpP k j A).dst ≠ 3 := by show j ≠ 3; omega
  unfold comeSy
  rw [if_neg hnn, if_neg hd]
  show (⟨upd S.rp j (takeS L (decF (smpP k j A).b).2 (S.rp j)), S.v, sendsN j k (takeT L (decF (smpP k j A).b).2 (S.rp j)) l⟩ : SY) = _
  generalize (decF (smpP k j A).b).2 = F at e0 e1 e2 e3 e4
  have hrep : isRep (F 1) = true := by rw [e1]; unfold isRep; simp; omega
  have hni : ¬ (isRep (F 1) = false ∨ F 1 = ((S.rp j).id : Int)) := by
    rintro (e | e)
    · rw [hrep] at e; exact absurd e (by decide)
    · rw [e1, hid] at e; omega
  have hS : takeS L F (S.rp j) = if A.cycle = (S.rp j).cycle then putR k (A.smp k).c (A.smp k).v (S.rp j) else S.rp j := by
    unfold takeS
    rw [if_neg (by rw [e0]; omega), if_neg hni]
    by_cases hcy : A.cycle = (S.rp j).cycle
    · rw [if_pos ⟨e0, by rw [e2]; exact hcy⟩, if_pos hcy, e1, e3, e4, Int.toNat_natCast, fit_small hc (by omega), fit_small hv (by omega)]
    · rw [if_neg (by rw [e2]; exact fun x => hcy x.2), if_neg hcy, if_neg (by rw [e0]; decide), if_neg (by rw [e0]; intro x; exact absurd x.1 (by decide))]
  have hT : takeT L F (S.rp j) = [] := by
    unfold takeT
    rw [if_neg (by rw [e0]; omega), if_neg hni, if_neg (by rw [e0]; decide)]
  rw [hS, hT]
  rfl
theorem come_sec {A : RS} {l : List Pk} (hm : mayB (secondR L A) = true) (hA : A.id = k) (hs : saysB A = true) :
    comeSy L win (secP L k A) ⟨S.rp, S.v, l⟩ = ⟨S.rp, (takeF win S.v (secondR L A)).1, voteNet win k ⟨S.rp, S.v, l⟩ (secondR L A)⟩ := by
  obtain ⟨q1, q2⟩ := bytes_may hm
  have hnn : ¬ isNone (secP L k A) := by
    rintro (e | e)
    · exact e q1
    · apply e
      rw [show (secP L k A).b = bytesF (secondR L A) from rfl, q2 1 (by omega), (sec_nums hs).1, hA]
      rfl
  have hcg := takeF_congr win S.v (F := (decF (secP L k A).b).2) (G := secondR L A) (fun k hk => q2 k (by omega))
  unfold comeSy
  rw [if_neg hnn, if_pos (show (secP L k A).dst = 3 from rfl)]
  have hvn : voteNet win (secP L k A).src ⟨S.rp, S.v, l⟩ (decF (secP L k A).b).2 = voteNet win k ⟨S.rp, S.v, l⟩ (secondR L A) := by
    unfold voteNet
    show (if (takeF win S.v _).2.2 then allsN 3 (takeF win S.v _).2.1 l else sendsN 3 k (takeF win S.v _).2.1 l) = _
    rw [hcg]
  show (⟨S.rp, (takeF win S.v (decF (secP L k A).b).2).1, voteNet win (secP L k A).src ⟨S.rp, S.v, l⟩ (decF (secP L k A).b).2⟩ : SY) = _
  rw [hvn, hcg]
theorem take_sec {A : RS} (hk : k < 3) (hA : A.id = k) (hs : saysB A = true) (V : VS) (hout : V.out.testBit k = false) {c : Nat} (hc : A.cycle = c) :
    (c < V.tr.length ∧ takeF win V (secondR L A) = (V, pastF V.tr c, false)) ∨
    (c = V.tr.length ∧ ((votesB A = false ∧ takeF win V (secondR L A) = (V, [], false)) ∨ (votesB A = true ∧ (V.lat = false →
      (secTo (castS V k (cmF (secondR L A))).b (castS V k (cmF (secondR L A))).x (cmF (secondR L A)) k 3 = false ∧ takeF win V (secondR L A) = (castS V k (cmF (secondR L A)), [], false)) ∨
      (takeF win V (secondR L A) = (commitS win (castS V k (cmF (secondR L A))) (cmF (secondR L A)), [doneF V.tr.length (cmF (secondR L A))], true)))))) ∨ V.tr.length < c := by
  obtain ⟨n1, n2, n3⟩ := sec_nums (L := L) hs
  rw [hA] at n1
  rw [hc] at n2
  generalize secondR L A = F at n1 n2 n3
  have hhear : hearB V F = true := by
    unfold hearB kindB fromB
    rw [n1, n2, Int.toNat_natCast, hout]
    rcases n3 with ⟨_, e⟩ | ⟨_, e⟩ <;> rw [e] <;> simp <;> omega
  have hto : (F 1).toNat = k := by rw [n1]; exact Int.toNat_natCast _
  have h2 : (F 2).toNat = c := by rw [n2]; exact Int.toNat_natCast _
  rcases (by omega : c < V.tr.length ∨ c = V.tr.length ∨ V.tr.length < c) with h | h | h
  · left
    refine ⟨h, ?_⟩
    unfold takeF
    rw [if_neg (by rw [hhear]; decide), if_pos (by omega), h2]
  · right; left
    refine ⟨h, ?_⟩
    rcases n3 with ⟨v1, e⟩ | ⟨v1, e⟩
    · right
      refine ⟨v1, fun hl => ?_⟩
      have hp : ¬ passB V F = true := by
        unfold passB
        rw [e, hl]
        simp
        omega
      by_cases hsec : secTo (castS V k (cmF F)).b (castS V k (cmF F)).x (cmF F) k 3 = false
      · left
        refine ⟨hsec, ?_⟩
        unfold takeF
        rw [if_neg (by rw [hhear]; decide), if_neg (by omega), if_neg hp, hto, if_pos hsec]
      · right
        unfold takeF
        rw [if_neg (by rw [hhear]; decide), if_neg (by omega), if_neg hp, hto, if_neg hsec]
    · left
      refine ⟨v1, ?_⟩
      unfold takeF
      rw [if_neg (by rw [hhear]; decide), if_neg (by omega), if_pos]
      unfold passB
      rw [e]; simp
  · exact .inr (.inr h)
theorem voteNet_past {l : List Pk} {c : Nat} {F : FR} (he : takeF win S.v F = (S.v, pastF S.v.tr c, false)) : voteNet win k ⟨S.rp, S.v, l⟩ F = sendsN 3 k (pastF S.v.tr c) l := by
  unfold voteNet
  show (if (takeF win S.v F).2.2 then allsN 3 (takeF win S.v F).2.1 l else sendsN 3 k (takeF win S.v F).2.1 l) = _
  rw [he]; simp
theorem past_list {tr : List Cm} {l : List Pk} {c : Nat} (hc : c < tr.length) (hl : l.length + 2 ≤ 120) : ∃ new, sendsN 3 k (pastF tr c) l = l ++ new ∧ new.length ≤ 2 ∧ (∀ p ∈ new, p.src = 3 ∧ p.dst = k ∧ ∃ n, n < tr.length ∧ p = doneP tr k n) ∧ doneP tr k (tr.length - 1) ∈ new := by
  unfold pastF
  split
  · rename_i e
    refine ⟨[doneP tr k c], ?_, by simp, fun p hp => ?_, ?_⟩
    · show putP _ l = _
      rw [put_end (by omega)]; rfl
    · rw [List.mem_singleton.1 hp]; exact ⟨rfl, rfl, c, hc, rfl⟩
    · rw [show tr.length - 1 = c by omega]; simp
  · refine ⟨[doneP tr k c, doneP tr k (tr.length - 1)], ?_, by simp, fun p hp => ?_, by simp⟩
    · show putP _ (putP _ l) = _
      rw [put_end (l := l) (by omega), put_end (by simp; omega), List.append_assoc]; rfl
    · simp only [List.mem_cons, List.not_mem_nil, or_false] at hp
      rcases hp with rfl | rfl
      · exact ⟨rfl, rfl, c, hc, rfl⟩
      · exact ⟨rfl, rfl, _, by omega, rfl⟩
theorem put_three {a b c : Pk} {l : List Pk} (h : l.length + 3 ≤ 120) : putP c (putP b (putP a l)) = l ++ [a, b, c] := by
  rw [put_end (p := a) (by omega), put_end (p := b) (by rw [List.length_append]; simp; omega), put_end (p := c) (by rw [List.length_append, List.length_append]; simp; omega)]
  simp
theorem SInv.out0 (h : SInv L W 3 win T S) : S.v.out = 0 := by
  apply Nat.eq_of_testBit_eq
  intro i
  rw [Nat.zero_testBit]
  by_cases hi : i < 3
  · exact h.out i hi (by omega)
  · exact Nat.testBit_lt_two_pow (Nat.lt_of_lt_of_le h.vok.out (Nat.pow_le_pow_right (n := 2) (i := 3) (by decide) (by omega)))
theorem First.comes {p : Pk} {o : List Pk} (hf : First L win S1 (p :: o) S) (h : SInv L W 3 win T S) (h1 : SInv L W 3 win T S1) (hL : LOk L) (hcap : S1.v.tr.length + 1 < 1000) : First L win S1 o (arriveSy L win 0 S) := by
  obtain ⟨new, hnet, hlen, hlate⟩ := hf.net
  have hpk : pkAt S.net 0 = p := by rw [hnet]; rfl
  have hou : outSy 0 S = ⟨S.rp, S.v, o ++ new⟩ := by unfold outSy; rw [hnet]; rfl
  have hA : SInv L W 3 win T (arriveSy L win 0 S) := (h.arrive hL (by rw [hnet]; simp)).1
  unfold arriveSy at hA ⊢
  rw [hpk, hou] at hA ⊢
  have hlen' : new.length + 3 * o.length + 3 ≤ 27 := by simp only [List.length_cons] at hlen; omega
  have hold : ∀ q ∈ o, OldP L S1 q := fun q hq => hf.old q (by simp [hq])
  have ht1 : S1.v.tr.length ≤ 1000 := by omega
  obtain ⟨k, hk, hp⟩ := hf.old p (by simp)
  rcases hp with ⟨j, hj, hjk, rfl⟩ | ⟨hs, rfl⟩
  ·
    have hid : (S.rp j).id = j := (h.rp j hj).id
    have hR := h1.rp k hk
    rw [come_smp hj hk hjk (hR.smp_may hL hk ht1) hR.id hid (hR.smp k hk).1 (hR.smp k hk).2 hL]
    obtain ⟨hsb, hown⟩ := hf.rp j hj
    have hcyc : (S.rp j).cycle = (S1.rp j).cycle := hsb.cycle.1
    have htk : (S.rp j).ticks = (S1.rp j).ticks := hsb.cycle.2.1
    have hsb' : sameBut (if (S1.rp k).cycle = (S.rp j).cycle then putR k ((S1.rp k).smp k).c ((S1.rp k).smp k).v (S.rp j) else S.rp j) (S1.rp j) := by
      obtain ⟨f, ef⟩ := hsb
      split
      · exact ⟨upd (S.rp j).smp k ⟨true, (S.rp j).ticks, ((S1.rp k).smp k).c, ((S1.rp k).smp k).v⟩, by rw [ef]; rfl⟩
      · exact ⟨f, ef⟩
    refine ⟨⟨new, rfl, by omega, hlate⟩, hold, fun i hi => ?_, fun i m hi hm him hc => ?_, ?_⟩
    · by_cases e : i = j
      · subst e
        show sameBut (upd S.rp i _ i) _ ∧ (upd S.rp i _ i).smp i = _
        rw [upd_same]
        refine ⟨hsb', ?_⟩
        split
        · show upd (S.rp i).smp k _ i = _
          rw [upd_other _ _ hjk]; exact hown
        · exact hown
      · show sameBut (upd S.rp j _ i) _ ∧ (upd S.rp j _ i).smp i = _
        rw [upd_other _ _ e]; exact hf.rp i hi
    · show _ ∨ (upd S.rp j _ i).smp m = _
      by_cases e : i = j
      · subst e
        rw [upd_same]
        by_cases em : m = k
        · subst em
          right
          rw [if_pos (hc.trans hcyc.symm)]
          show upd (S.rp i).smp m _ m = _
          rw [upd_same, htk]; rfl
        · rcases hf.came i m hi hm him hc with e | e
          · left
            rcases List.mem_cons.1 e with e | e
            · exact absurd (congrArg Pk.src e) em
            · exact e
          · right
            split
            · show upd (S.rp i).smp k _ m = _
              rw [upd_other _ _ em]; exact e
            · exact e
      · rw [upd_other _ _ e]
        rcases hf.came i m hi hm him hc with e' | e'
        · left
          rcases List.mem_cons.1 e' with e' | e'
          · exact absurd (congrArg Pk.dst e') e
          · exact e'
        · exact .inr e'
    · have hdrop : ∀ q, q.dst = 3 → q ∈ smpP k j (S1.rp k) :: o → q ∈ o := fun q hq hm => by
        rcases List.mem_cons.1 hm with e | e
        · rw [e] at hq
          have : j = 3 := hq
          omega
        · exact e
      have hdrop2 : ∀ q, q.src = 3 → q ∈ S.net → q ∈ o ++ new := fun q hq hm => by
        rw [hnet] at hm
        rcases List.mem_cons.1 hm with e | e
        · rw [e] at hq
          have : k = 3 := hq
          omega
        · exact e
      rcases hf.vot with v | v
      · left
        refine ⟨v.tr, v.left, v.lat, fun i hi hv hc => ?_, fun i hi hv hc => ?_, fun q hq => ?_⟩
        · exact (v.voted i hi hv hc).imp (hdrop _ rfl) id
        · exact (v.told i hi hv hc).imp (hdrop _ rfl) (hdrop2 _ rfl)
        · exact v.whom q (by rw [hnet]; exact List.mem_cons_of_mem _ hq)
      · right
        exact ⟨v.who, v.left, v.lat, v.none, fun i hi => hdrop2 _ rfl (v.told i hi)⟩
  ·
    have hR := h1.rp k hk
    have hout : S.v.out.testBit k = false := h.out k hk (by omega)
    obtain ⟨c, c1, c2, _⟩ := hR.cyc
    have hm := hR.sec_may hL hk ht1 hs
    rw [come_sec hm hR.id hs] at hA ⊢
    have hol : (o ++ new).length + 3 ≤ 120 := by rw [List.length_append]; omega
    have hcame : ∀ (net : List Pk) (V : VS), ∀ i m, i < 3 → m < 3 → i ≠ m → (S1.rp m).cycle = (S1.rp i).cycle → smpP m i (S1.rp m) ∈ o ∨ ((⟨S.rp, V, net⟩ : SY).rp i).smp m = gotS S1 i m := fun net V i m hi hm him hc => by
      rcases hf.came i m hi hm him hc with e | e
      · left
        rcases List.mem_cons.1 e with e | e
        · have : i = 3 := congrArg Pk.dst e
          omega
        · exact e
      · exact .inr e
    have hdrop2 : ∀ q, q.src = 3 → q ∈ S.net → q ∈ o ++ new := fun q hq hm => by
      rw [hnet] at hm
      rcases List.mem_cons.1 hm with e | e
      · rw [e] at hq
        have : k = 3 := hq
        omega
      · exact e
    have hsec : ∀ i, secP L i (S1.rp i) ∈ secP L k (S1.rp k) :: o → i = k ∨ secP L i (S1.rp i) ∈ o := fun i hm => by
      rcases List.mem_cons.1 hm with e | e
      · exact .inl (congrArg Pk.src e)
      · exact .inr e
    rcases hf.vot with v | v
    · have hlt : S.v.tr.length = S1.v.tr.length := by rw [v.tr]
      have hwhom : ∀ q ∈ o ++ new, q.src = 3 → saysB (S1.rp q.dst) = true := fun q hq => v.whom q (by rw [hnet]; exact List.mem_cons_of_mem _ hq)
      rcases take_sec (win := win) (L := L) hk hR.id hs S.v hout c1 with ⟨g1, g2⟩ | ⟨g1, g2⟩ | g1
      · obtain ⟨new2, e2, l2, a2, b2⟩ := past_list (k := k) (tr := S.v.tr) (l := o ++ new) g1 (by omega)
        rw [voteNet_past g2, g2, e2]
        refine ⟨⟨new ++ new2, by show _ = _; rw [List.append_assoc], by rw [List.length_append]; omega, fun q hq => ?_⟩, hold, hf.rp, hcame _ _, .inl ⟨v.tr, v.left, v.lat, fun i hi hv hc => ?_, fun i hi hv hc => ?_, fun q hq hq3 => ?_⟩⟩
        · rcases List.mem_append.1 hq with hq | hq
          · exact hlate q hq
          · obtain ⟨_, _, n, hn, e⟩ := a2 q hq
            exact ⟨k, n, hk, hn, e⟩
        · rcases v.voted i hi hv hc with e | e
          · rcases hsec i e with e | e
            · subst e; omega
            · exact .inl e
          · exact .inr e
        · rcases v.told i hi hv hc with e | e
          · rcases hsec i e with e | e
            · subst e
              right
              show doneP S1.v.tr i (S1.v.tr.length - 1) ∈ (o ++ new) ++ new2
              rw [← v.tr]
              exact List.mem_append_right _ b2
            · exact .inl e
          · exact .inr (List.mem_append_left _ (hdrop2 _ rfl e))
        · rcases List.mem_append.1 hq with hq | hq
          · exact hwhom q hq hq3
          · rw [(a2 q hq).2.1]; exact hs
      · have hnet0 : ∀ V : VS, takeF win S.v (secondR L (S1.rp k)) = (V, [], false) → voteNet win k ⟨S.rp, S.v, o ++ new⟩ (secondR L (S1.rp k)) = o ++ new := fun V e => by
          unfold voteNet
          show (if (takeF win S.v _).2.2 then allsN 3 (takeF win S.v _).2.1 (o ++ new) else sendsN 3 k (takeF win S.v _).2.1 (o ++ new)) = _
          rw [e]; simp [sendsN]
        have hlater : ∀ i, i < 3 → saysB (S1.rp i) = true → (S1.rp i).cycle < (S1.v.tr.length : Int) → secP L i (S1.rp i) ∈ o ∨ doneP S1.v.tr i (S1.v.tr.length - 1) ∈ o ++ new := fun i hi hv hc => by
          rcases v.told i hi hv hc with e | e
          · rcases hsec i e with e | e
            · subst e; omega
            · exact .inl e
          · exact .inr (hdrop2 _ rfl e)
        rcases g2 with ⟨hv, g2⟩ | ⟨hv, g2⟩
        · rw [hnet0 _ g2, g2]
          refine ⟨⟨new, rfl, by omega, hlate⟩, hold, hf.rp, hcame _ _, .inl ⟨v.tr, v.left, v.lat, fun i hi hvi hc => ?_, hlater, hwhom⟩⟩
          rcases v.voted i hi hvi hc with e | e
          · rcases hsec i e with e | e
            · subst e; rw [hv] at hvi; exact absurd hvi (by decide)
            · exact .inl e
          · exact .inr e
        · rcases g2 v.lat with ⟨_, g3⟩ | g3
          · rw [hnet0 _ g3, g3]
            refine ⟨⟨new, rfl, by omega, hlate⟩, hold, hf.rp, hcame _ _, .inl ⟨v.tr, v.left, v.lat, fun i hi hvi hc => ?_, hlater, hwhom⟩⟩
            by_cases ei : i = k
            · subst ei
              right
              exact ⟨upd_same _ _ _, upd_same _ _ _⟩
            · rcases v.voted i hi hvi hc with e | e
              · rcases hsec i e with e | e
                · exact absurd e ei
                · exact .inl e
              · right
                refine ⟨?_, ?_⟩
                · show upd S.v.b k true i = true
                  rw [upd_other _ _ ei]; exact e.1
                · show upd S.v.x k _ i = _
                  rw [upd_other _ _ ei]; exact e.2
          · rw [g3] at hA ⊢
            have hnt : voteNet win k ⟨S.rp, S.v, o ++ new⟩ (secondR L (S1.rp k)) = (o ++ new) ++ [⟨3, 0, bytesF (doneF S.v.tr.length (cmF (secondR L (S1.rp k))))⟩, ⟨3, 1, bytesF (doneF S.v.tr.length (cmF (secondR L (S1.rp k))))⟩, ⟨3, 2, bytesF (doneF S.v.tr.length (cmF (secondR L (S1.rp k))))⟩] := by
              unfold voteNet
              show (if (takeF win S.v _).2.2 then allsN 3 (takeF win S.v _).2.1 (o ++ new) else sendsN 3 k (takeF win S.v _).2.1 (o ++ new)) = _
              rw [g3]
              show putP _ (putP _ (putP _ (o ++ new))) = _
              exact put_three hol
            rw [hnt] at hA ⊢
            have hout0 := hA.out0
            have hdn : ∀ j, (⟨3, j, bytesF (doneF S.v.tr.length (cmF (secondR L (S1.rp k))))⟩ : Pk) = doneP (S.v.tr ++ [cmF (secondR L (S1.rp k))]) j S.v.tr.length := fun j => by unfold doneP; rw [cmAt_new]
            refine ⟨⟨new ++ _, by show _ = _; rw [List.append_assoc], by rw [List.length_append]; simp; omega, fun q hq => ?_⟩, hold, hf.rp, hcame _ _, .inr ⟨⟨k, hk, hv, by rw [c1, g1, hlt], by show S.v.tr ++ _ = _; rw [v.tr]⟩, rfl, ?_, fun _ => rfl, fun j hj => ?_⟩⟩
            · show ∃ r n, r < 3 ∧ n < (S.v.tr ++ [cmF (secondR L (S1.rp k))]).length ∧ q = doneP (S.v.tr ++ [cmF (secondR L (S1.rp k))]) r n
              have hll : (S.v.tr ++ [cmF (secondR L (S1.rp k))]).length = S.v.tr.length + 1 := by simp
              rcases List.mem_append.1 hq with hq | hq
              · obtain ⟨r, n, hr, hn, e⟩ := hlate q hq
                refine ⟨r, n, hr, by omega, ?_⟩
                rw [e]
                unfold doneP
                rw [cmAt_app hn]
              · simp only [List.mem_cons, List.not_mem_nil, or_false] at hq
                rcases hq with rfl | rfl | rfl
                · exact ⟨0, S.v.tr.length, by omega, by omega, hdn 0⟩
                · exact ⟨1, S.v.tr.length, by omega, by omega, hdn 1⟩
                · exact ⟨2, S.v.tr.length, by omega, by omega, hdn 2⟩
            · show (decide (2 ≤ pop 8 (outN _ _)) || decide (1000 ≤ S.v.tr.length + 1)) = false
              have e0 : outN (castS S.v k (cmF (secondR L (S1.rp k)))) (cmF (secondR L (S1.rp k))) = 0 := hout0
              rw [e0, decide_eq_false (by decide), decide_eq_false (by omega)]
              rfl
            · show doneP (S.v.tr ++ [cmF (secondR L (S1.rp k))]) j S1.v.tr.length ∈ _
              rw [← hlt, ← hdn j]
              refine List.mem_append_right _ ?_
              rcases (by omega : j = 0 ∨ j = 1 ∨ j = 2) with rfl | rfl | rfl <;> simp
      · omega
    · obtain ⟨i, hi, hvi, hci, htr⟩ := v.who
      have hlt : S.v.tr.length = S1.v.tr.length + 1 := by rw [htr]; simp
      rcases take_sec (win := win) (L := L) hk hR.id hs S.v hout c1 with ⟨g1, g2⟩ | ⟨g1, _⟩ | g1
      · obtain ⟨new2, e2, l2, a2, b2⟩ := past_list (k := k) (tr := S.v.tr) (l := o ++ new) g1 (by omega)
        rw [voteNet_past g2, g2, e2]
        refine ⟨⟨new ++ new2, by show _ = _; rw [List.append_assoc], by rw [List.length_append]; omega, fun q hq => ?_⟩, hold, hf.rp, hcame _ _, .inr ⟨v.who, v.left, v.lat, v.none, fun j hj => List.mem_append_left _ (hdrop2 _ rfl (v.told j hj))⟩⟩
        rcases List.mem_append.1 hq with hq | hq
        · exact hlate q hq
        · obtain ⟨_, _, n, hn, e⟩ := a2 q hq
          exact ⟨k, n, hk, hn, e⟩
      · omega
      · omega
theorem First.all (hL : LOk L) (h1 : SInv L W 3 win T S1) (hcap : S1.v.tr.length + 1 < 1000) : ∀ (o : List Pk) (S : SY), First L win S1 o S → SInv L W 3 win T S → First L win S1 [] (runAll L win o.length S) ∧ SInv L W 3 win T (runAll L win o.length S)
  | [], S, hf, h => ⟨hf, h⟩
  | p :: o, S, hf, h => by
    have hA : SInv L W 3 win T (arriveSy L win 0 S) := (h.arrive hL (by obtain ⟨new, e, _⟩ := hf.net; rw [e]; simp)).1
    exact First.all hL h1 hcap o _ (hf.comes h h1 hL hcap) hA
theorem First.start (hnet : S1.net = oldQ L S1) (hlat : S1.v.lat = false) : First L win S1 (oldQ L S1) S1 := by
  refine ⟨⟨[], by rw [hnet]; simp, by have := oldQ_len L S1; simp; omega, fun p hp => by simp at hp⟩, fun p hp => oldQ_mem hp, fun j _ => ⟨⟨(S1.rp j).smp, rfl⟩, rfl⟩, fun j k hj hk hjk _ => .inl (mem_oldQ hk (smp_in hk hj hjk _)), .inl ⟨rfl, rfl, hlat, fun k hk hv _ => .inl (mem_oldQ hk (sec_in ?_)), fun k hk hs _ => .inl (mem_oldQ hk (sec_in hs)), fun p hp h3 => ?_⟩⟩
  · unfold saysB; rw [hv]; rfl
  · rw [hnet] at hp
    obtain ⟨k, hk, e⟩ := oldQ_mem hp
    exfalso
    rcases e with ⟨j, _, _, rfl⟩ | ⟨_, rfl⟩
    · have : k = 3 := h3
      omega
    · have : k = 3 := h3
      omega
def idleB (S1 S : SY) (r : Nat) : Bool := decide ((S1.rp r).cycle = (S.v.tr.length : Int)) || (decide (S.v.tr.length = S1.v.tr.length) && !saysB (S1.rp r))
theorem First.late (hf : First L win S1 [] S) (h : SInv L W 3 win T S) : Late (idleB S1 S) S S := by
  obtain ⟨new, hnet, _, hlate⟩ := hf.net
  refine ⟨rfl, fun p hp => ?_, fun r _ => ⟨rfl, rfl⟩, fun r hr => ?_⟩
  · rw [hnet] at hp
    obtain ⟨r, n, hr, hn, e⟩ := hlate p (by simpa using hp)
    exact ⟨r, hr, .inl ⟨n, hn, e⟩⟩
  · obtain ⟨c, c1, c2, _⟩ := (h.rp r hr).cyc
    have hcy : (S1.rp r).cycle = c := by rw [← (hf.rp r hr).1.cycle.1]; exact c1
    unfold idleB
    by_cases e : c = S.v.tr.length
    · exact .inl ⟨by rw [decide_eq_true (by omega)]; rfl, rfl, .inl (by omega)⟩
    · rw [decide_eq_false (by omega), Bool.false_or]
      rcases hf.vot with v | v
      · have hlt : S.v.tr.length = S1.v.tr.length := by rw [v.tr]
        rw [decide_eq_true hlt, Bool.true_and]
        cases hs : saysB (S1.rp r)
        · left
          refine ⟨rfl, rfl, .inr fun p hp => ?_⟩
          rw [hnet] at hp
          obtain ⟨r', n, hr', hn, ep⟩ := hlate p (by simpa using hp)
          have hw := v.whom p (by rw [hnet]; exact hp) (by rw [ep]; rfl)
          refine ⟨fun x => ?_, by rw [ep]; show (3 : Nat) ≠ r; omega⟩
          rw [x, hs] at hw
          exact absurd hw (by decide)
        · right
          refine ⟨rfl, .inl ⟨c, c1, by omega, .inr ?_⟩⟩
          rcases v.told r hr hs (by omega) with x | x
          · simp at x
          · rw [v.tr]; exact x
      · obtain ⟨i, hi, hvi, hci, htr⟩ := v.who
        have hlt : S.v.tr.length = S1.v.tr.length + 1 := by rw [htr]; simp
        rw [decide_eq_false (by omega), Bool.false_and]
        right
        refine ⟨rfl, .inl ⟨c, c1, by omega, .inr ?_⟩⟩
        rw [hlt]
        exact v.told r hr
theorem runAll_add (a b : Nat) (S : SY) : runAll L win (a + b) S = runAll L win b (runAll L win a S) := by
  induction a generalizing S with
  | zero => rw [Nat.zero_add]; rfl
  | succ a ih => rw [Nat.add_right_comm]; exact ih _
structure Half (L : RC) (W : Seen) (win T : Nat) (S1 S : SY) : Prop where
  inv : SInv L W 3 win T S
  net : S.net = []
  lat : S.v.lat = false
  sees : ∀ r, r < 3 → (S.rp r).sx = (S1.rp r).sx ∧ (S.rp r).sy = (S1.rp r).sy
  how : ((∃ k, k < 3 ∧ votesB (S1.rp k) = true ∧ (S1.rp k).cycle = (S1.v.tr.length : Int) ∧ S.v.tr = S1.v.tr ++ [cmF (secondR L (S1.rp k))]) ∧ S.v.left = win ∧ ∀ r, r < 3 → FreshR S.v.tr (S.rp r)) ∨
    (S.v.tr = S1.v.tr ∧ S.v.left = S1.v.left ∧ (∀ i j, i < 3 → j < 3 → i ≠ j → votesB (S1.rp i) = true → votesB (S1.rp j) = true → (S1.rp i).cycle = (S1.v.tr.length : Int) → (S1.rp j).cycle = (S1.v.tr.length : Int) → cmF (secondR L (S1.rp i)) ≠ cmF (secondR L (S1.rp j))) ∧
      ∀ r, r < 3 → (¬ ((S1.rp r).cycle = (S1.v.tr.length : Int) ∨ saysB (S1.rp r) = false) ∧ FreshR S.v.tr (S.rp r)) ∨ (((S1.rp r).cycle = (S1.v.tr.length : Int) ∨ saysB (S1.rp r) = false) ∧ sameBut (S.rp r) (S1.rp r) ∧ (S.rp r).smp r = (S1.rp r).smp r ∧ ∀ k, k < 3 → r ≠ k → (S1.rp k).cycle = (S1.rp r).cycle → (S.rp r).smp k = gotS S1 r k))
theorem half_end (hL : LOk L) (h1 : SInv L W 3 win T S1) (hnet : S1.net = oldQ L S1) (hlat : S1.v.lat = false) (hcap : S1.v.tr.length + 1 < 1000) {m : Nat} (hm : (runAll L win m S1).net = []) : Half L W win T S1 (runAll L win m S1) := by
  obtain ⟨hf, h2⟩ := First.all hL h1 hcap (oldQ L S1) S1 (First.start hnet hlat) h1
  have he : runAll L win m S1 = runAll L win m (runAll L win (oldQ L S1).length S1) := by
    rw [← runAll_add, Nat.add_comm, runAll_add, runAll_nil hm]
  rw [he] at hm ⊢
  generalize runAll L win (oldQ L S1).length S1 = S2 at hf h2 hm ⊢
  obtain ⟨hl, h3⟩ := Late.all hL m S2 (hf.late h2) h2 hm
  generalize runAll L win m S2 = S at hl h3 hm ⊢
  have hsb : ∀ r, r < 3 → sameBut (S2.rp r) (S1.rp r) := fun r hr => (hf.rp r hr).1
  refine ⟨h3, hm, ?_, fun r hr => ?_, ?_⟩
  · rw [hl.v]
    rcases hf.vot with v | v
    · exact v.lat
    · exact v.lat
  · have a := hl.sees r hr
    have b := (hsb r hr).cycle
    exact ⟨a.1.trans b.2.2.2.2.1, a.2.trans b.2.2.2.2.2⟩
  · rcases hf.vot with v | v
    · right
      have hlt : S2.v.tr.length = S1.v.tr.length := by rw [v.tr]
      refine ⟨by rw [hl.v]; exact v.tr, by rw [hl.v]; exact v.left, fun i j hi hj hij vi vj ci cj e => ?_, fun r hr => ?_⟩
      · rcases v.voted i hi vi ci with x | ⟨x1, x2⟩
        · simp at x
        · rcases v.voted j hj vj cj with y | ⟨y1, y2⟩
          · simp at y
          · exact h2.apart i j hij x1 y1 (by rw [x2, y2, e])
      · rcases hl.end hm hr with ⟨hI, e⟩ | ⟨hI, e⟩
        · right
          unfold idleB at hI
          rw [Bool.or_eq_true, Bool.and_eq_true, decide_eq_true_eq, decide_eq_true_eq, hlt] at hI
          refine ⟨hI.imp id (fun x => by simpa using x.2), by rw [e]; exact hsb r hr, by rw [e]; exact (hf.rp r hr).2, fun k hk hrk hc => ?_⟩
          rw [e]
          rcases hf.came r k hr hk hrk hc with x | x
          · simp at x
          · exact x
        · left
          refine ⟨fun x => ?_, e⟩
          unfold idleB at hI
          rw [Bool.or_eq_false_iff, Bool.and_eq_false_iff, decide_eq_false_iff_not, decide_eq_false_iff_not, hlt] at hI
          rcases x with x | x
          · exact hI.1 x
          · rcases hI.2 with y | y
            · exact y rfl
            · rw [x] at y; exact absurd y (by decide)
    · left
      refine ⟨by rw [hl.v]; exact v.who, by rw [hl.v]; exact v.left, fun r hr => ?_⟩
      obtain ⟨i, hi, hvi, hci, htr⟩ := v.who
      have hlt : S2.v.tr.length = S1.v.tr.length + 1 := by rw [htr]; simp
      rcases hl.end hm hr with ⟨hI, e⟩ | ⟨_, e⟩
      · exfalso
        obtain ⟨c, c1, c2, _⟩ := (h1.rp r hr).cyc
        unfold idleB at hI
        rw [Bool.or_eq_true, Bool.and_eq_true, decide_eq_true_eq, decide_eq_true_eq, hlt] at hI
        rcases hI with x | x
        · omega
        · omega
      · exact e
end
def roundTo (L : RC) (win : Nat) (S S' : SY) : Prop := ∃ m0 m1 m2, (runAll L win m0 S).net = [] ∧ (runAll L win m1 (ticksSy L (runAll L win m0 S))).net = [] ∧ (runAll L win m2 (ticksSy L (runAll L win m1 (ticksSy L (runAll L win m0 S))))).net = [] ∧ S' = vtickSy (runAll L win m2 (ticksSy L (runAll L win m1 (ticksSy L (runAll L win m0 S)))))
def calmTo (L : RC) (win : Nat) : Nat → SY → SY → Prop
  | 0, S, S' => S' = S
  | n + 1, S, S' => ∃ S1, roundTo L win S S1 ∧ calmTo L win n S1 S'
section
variable {L : RC} {W : Seen} {win T n k : Nat} {S S1 : SY}
theorem tickS_cycle (R : RS) : (tickS L R).cycle = R.cycle ∧ (tickS L R).ticks = R.ticks + 1 ∧ (tickS L R).sx = R.sx ∧ (tickS L R).sy = R.sy ∧ (tickS L R).st = R.st := ⟨rfl, rfl, rfl, rfl, rfl⟩
theorem tickS_own (R : RS) : (tickS L R).smp R.id = ⟨true, R.ticks + 1, fitN L.s R.sx, fitN L.n R.sy⟩ := upd_same _ _ _
theorem tickS_other (R : RS) {j : Nat} (hj : j < 3) (h : j ≠ R.id) : (tickS L R).smp j = fgone (R.ticks + 1) (R.smp j) := by
  show upd (fgTo (R.ticks + 1) R.smp 3) R.id _ j = _
  rw [upd_other _ _ h, fgTo_at, if_pos hj]
theorem SInv.ticks (hW : ∀ j n x b, W j n x b) (h : SInv L W 3 win T S) : SInv L W 3 win (T + 3) (ticksSy L S) := by
  have one : ∀ {T : Nat} {S : SY} {k : Nat}, k < 3 → SInv L W 3 win T S → SInv L W 3 win (T + 1) (tickSy L k S) := fun {T S k} hk h => by
    obtain ⟨n, c1, _⟩ := (h.rp k hk).cyc
    exact h.tick hk c1 fun _ => ⟨fun _ _ => hW _ _ _ _, fun _ _ => hW _ _ _ _⟩
  exact one (by omega) (one (by omega) (one (by omega) h))
theorem half_step (hL : LOk L) (hW : ∀ j n x b, W j n x b) (h : SInv L W 3 win T S) (hn : S.net = []) (hl : S.v.lat = false) (hcap : S.v.tr.length + 1 < 1000) {m : Nat} (hm : (runAll L win m (ticksSy L S)).net = []) : Half L W win (T + 3) (ticksSy L S) (runAll L win m (ticksSy L S)) :=
  half_end hL (h.ticks hW) (ticks_net L hn) hl hcap hm
def Sync (S : SY) : Prop := ∀ r, r < 3 → (S.rp r).cycle = (S.v.tr.length : Int)
def AllFresh (S : SY) : Prop := ∀ r, r < 3 → FreshR S.v.tr (S.rp r)
def Mid (L : RC) (S : SY) : Prop := ∀ r, r < 3 → (S.rp r).cycle = (S.v.tr.length : Int) ∧ ∀ k, k < 3 → ∃ t, (S.rp r).smp k = ⟨true, t, fitN L.s (S.rp k).sx, fitN L.n (S.rp k).sy⟩ ∧ (S.rp r).ticks - t ≤ 1
def wantC (L : RC) (S : SY) : Nat := two3 (fitN L.s (S.rp 0).sx) (fitN L.s (S.rp 1).sx) (fitN L.s (S.rp 2).sx)
def wantV (L : RC) (S : SY) : Nat := two3 (fitN L.n (S.rp 0).sy) (fitN L.n (S.rp 1).sy) (fitN L.n (S.rp 2).sy)
def wantD (L : RC) (S : SY) : Cm := ⟨wantC L S, wantV L S, (outOf L (stAt L S.v.tr S.v.tr.length) (wantC L S) (wantV L S) : Nat)⟩
theorem AllFresh.sync (h : AllFresh S) : Sync S := fun r hr => (h r hr).cyc
theorem Mid.sync (h : Mid L S) : Sync S := fun r hr => (h r hr).1
theorem Half.sync {S' : SY} (h : Half L W win T (ticksSy L S) S') (h0 : SInv L W 3 win n S) (hs : Sync S) : (AllFresh S' ∧ S'.v.tr.length = S.v.tr.length + 1) ∨ (S'.v.tr = S.v.tr ∧ Mid L S') := by
  rcases h.how with ⟨⟨k, _, _, _, e⟩, _, hf⟩ | ⟨e, _, _, hr⟩
  · left
    refine ⟨hf, ?_⟩
    rw [e, ticks_v]; simp
  · right
    rw [ticks_v] at e
    have hc1 : ∀ r, r < 3 → ((ticksSy L S).rp r).cycle = (S.v.tr.length : Int) := fun r hr3 => by rw [ticks_rp L S hr3]; exact hs r hr3
    refine ⟨e, fun r hr3 => ?_⟩
    rcases hr r hr3 with ⟨x, _⟩ | ⟨_, x2, x3, x4⟩
    · exact absurd (.inl (hc1 r hr3)) x
    · have b := x2.cycle
      refine ⟨by rw [b.1, hc1 r hr3, e], fun k hk => ?_⟩
      have hown : ((ticksSy L S).rp k).smp k = ⟨true, (S.rp k).ticks + 1, fitN L.s (S.rp k).sx, fitN L.n (S.rp k).sy⟩ := by
        rw [ticks_rp L S hk]
        have := tickS_own (L := L) (S.rp k)
        rw [(h0.rp k hk).id] at this
        exact this
      have hse := h.sees k hk
      rw [ticks_rp L S hk] at hse
      have hsx : (S'.rp k).sx = (S.rp k).sx := hse.1
      have hsy : (S'.rp k).sy = (S.rp k).sy := hse.2
      rw [hsx, hsy]
      have hb1 := b.2.1
      rw [ticks_rp L S hr3] at hb1
      by_cases hrk : r = k
      · subst hrk
        refine ⟨_, x3.trans hown, ?_⟩
        rw [hb1]
        show (S.rp r).ticks + 1 - ((S.rp r).ticks + 1) ≤ 1
        omega
      · refine ⟨((ticksSy L S).rp r).ticks, ?_, ?_⟩
        · rw [x4 k hk hrk (by rw [hc1 r hr3, hc1 k hk])]
          unfold gotS
          rw [hown]
        · rw [hb1, ticks_rp L S hr3]
          omega
theorem Half.fresh {S' : SY} (h : Half L W win T (ticksSy L S) S') (h0 : SInv L W 3 win n S) (hf : AllFresh S) : S'.v.tr = S.v.tr ∧ Mid L S' := by
  have hnv : ∀ r, r < 3 → votesB ((ticksSy L S).rp r) = false := fun r hr => by
    rw [ticks_rp L S hr]
    have hid := (h0.rp r hr).id
    have f := hf r hr
    have hth : ∀ j, j < 3 → ((tickS L (S.rp r)).smp j).there = decide (j = r) := fun j hj => by
      by_cases e : j = r
      · subst e
        have := tickS_own (L := L) (S.rp j)
        rw [hid] at this
        rw [this]; simp
      · rw [tickS_other _ hj (by rw [hid]; exact e), f.smp]
        rw [decide_eq_false e]
        unfold fgone
        split <;> rfl
    unfold votesB haveTo haveTo haveTo haveTo
    rw [hth 0 (by omega), hth 1 (by omega), hth 2 (by omega)]
    have ht : (tickS L (S.rp r)).ticks = 1 := by rw [(tickS_cycle (S.rp r)).2.1, f.ticks]; rfl
    rw [ht]
    rcases (by omega : r = 0 ∨ r = 1 ∨ r = 2) with rfl | rfl | rfl <;> rfl
  rcases h.how with ⟨⟨k, hk, hv, _, _⟩, _, _⟩ | _
  · rw [hnv k hk] at hv; exact absurd hv (by decide)
  · rcases h.sync h0 hf.sync with ⟨_, e⟩ | e
    · rcases h.how with ⟨⟨k, hk, hv, _, _⟩, _, _⟩ | ⟨e2, _⟩
      · rw [hnv k hk] at hv; exact absurd hv (by decide)
      · rw [e2, ticks_v] at e; omega
    · exact e
theorem mid_vote (h0 : SInv L W 3 win n S) (hm : Mid L S) {r : Nat} (hr : r < 3) : votesB ((ticksSy L S).rp r) = true ∧ cmF (secondR L ((ticksSy L S).rp r)) = wantD L S := by
  rw [ticks_rp L S hr]
  have hid := (h0.rp r hr).id
  obtain ⟨hc, hsm⟩ := hm r hr
  have hall : ∀ j, j < 3 → ((tickS L (S.rp r)).smp j).there = true ∧ ((tickS L (S.rp r)).smp j).c = fitN L.s (S.rp j).sx ∧ ((tickS L (S.rp r)).smp j).v = fitN L.n (S.rp j).sy := fun j hj => by
    by_cases e : j = r
    · subst e
      have := tickS_own (L := L) (S.rp j)
      rw [hid] at this
      rw [this]; exact ⟨rfl, rfl, rfl⟩
    · obtain ⟨t, ht, hle⟩ := hsm j hj
      rw [tickS_other _ hj (by rw [hid]; exact e), ht]
      unfold fgone
      rw [if_neg (by show ¬ 3 ≤ (S.rp r).ticks + 1 - t; omega)]
      exact ⟨rfl, rfl, rfl⟩
  have hv : votesB (tickS L (S.rp r)) = true := by
    unfold votesB haveTo haveTo haveTo haveTo
    rw [(hall 0 (by omega)).1, (hall 1 (by omega)).1, (hall 2 (by omega)).1]
    rfl
  refine ⟨hv, ?_⟩
  obtain ⟨m, c1, c2, c3, _⟩ := (h0.rp r hr).cyc
  have hmt : m = S.v.tr.length := by omega
  subst hmt
  have e1 : fuseC (tickS L (S.rp r)) = wantC L S := by unfold fuseC wantC; rw [(hall 0 (by omega)).2.1, (hall 1 (by omega)).2.1, (hall 2 (by omega)).2.1]
  have e2 : fuseV (tickS L (S.rp r)) = wantV L S := by unfold fuseV wantV; rw [(hall 0 (by omega)).2.2, (hall 1 (by omega)).2.2, (hall 2 (by omega)).2.2]
  unfold secondR
  rw [if_pos hv]
  show (⟨(fuseC (tickS L (S.rp r)) : Nat), (fuseV (tickS L (S.rp r)) : Nat), (outR L (tickS L (S.rp r)) (fuseC (tickS L (S.rp r))) (fuseV (tickS L (S.rp r))) : Nat)⟩ : Cm) = _
  rw [e1, e2]
  unfold outR wantD outOf
  rw [(tickS_cycle (S.rp r)).2.2.2.2, c3]
theorem Half.mid {S' : SY} (h : Half L W win T (ticksSy L S) S') (h0 : SInv L W 3 win n S) (hm : Mid L S) : AllFresh S' ∧ S'.v.tr = S.v.tr ++ [wantD L S] := by
  rcases h.how with ⟨⟨k, hk, _, _, e⟩, _, hf⟩ | ⟨_, _, hne, _⟩
  · refine ⟨hf, ?_⟩
    rw [e, (mid_vote h0 hm hk).2, ticks_v]
  · exfalso
    have a := mid_vote h0 hm (r := 0) (by omega)
    have b := mid_vote h0 hm (r := 1) (by omega)
    refine hne 0 1 (by omega) (by omega) (by omega) a.1 b.1 ?_ ?_ (by rw [a.2, b.2])
    · rw [ticks_rp L S (by omega)]; exact hm.sync 0 (by omega)
    · rw [ticks_rp L S (by omega)]; exact hm.sync 1 (by omega)
structure Stand (L : RC) (W : Seen) (win T b : Nat) (S : SY) : Prop where
  inv : SInv L W 3 win T S
  net : S.net = []
  lat : S.v.lat = false
  left : b ≤ S.v.left
  wins : b ≤ win
theorem Half.stand {b : Nat} {S' : SY} (h : Half L W win T (ticksSy L S) S') (hb : b ≤ S.v.left) (hw : b ≤ win) : Stand L W win T b S' := by
  refine ⟨h.inv, h.net, h.lat, ?_, hw⟩
  rcases h.how with ⟨_, e, _⟩ | ⟨_, e, _⟩
  · rw [e]; exact hw
  · rw [e]; exact hb
theorem Half.few {S' : SY} (h : Half L W win T (ticksSy L S) S') : S.v.tr.length ≤ S'.v.tr.length ∧ S'.v.tr.length ≤ S.v.tr.length + 1 := by
  rcases h.how with ⟨⟨k, _, _, _, e⟩, _, _⟩ | ⟨e, _⟩
  · rw [e, ticks_v]; simp
  · rw [e, ticks_v]; omega
theorem Half.want {S' : SY} (h : Half L W win T (ticksSy L S) S') : ∀ r, r < 3 → (S'.rp r).sx = (S.rp r).sx ∧ (S'.rp r).sy = (S.rp r).sy := fun r hr => by
  have := h.sees r hr
  rw [ticks_rp L S hr] at this
  exact this
theorem Stand.tick {b : Nat} (h : Stand L W win T (b + 2) S) : Stand L W win T (b + 1) (vtickSy S) := by
  have hl := h.left
  have e : tickF S.v = ⟨S.v.tr, S.v.b, S.v.x, S.v.left - 1, S.v.out, S.v.left - 1 == 0⟩ := by unfold tickF; rw [h.lat]; rfl
  refine ⟨h.inv.vtick, h.net, ?_, ?_, by have := h.wins; omega⟩
  · show (tickF S.v).lat = false
    rw [e]
    show (S.v.left - 1 == 0) = false
    simp; omega
  · show b + 1 ≤ (tickF S.v).left
    rw [e]
    show b + 1 ≤ S.v.left - 1
    omega
theorem vtick_tr (S : SY) : (vtickSy S).v.tr = S.v.tr := tickF_tr S.v
theorem rounds {P : Nat → SY → Prop} (hL : LOk L) (hW : ∀ j n x b, W j n x b)
    (hP : ∀ i S S' T, SInv L W 3 win T S → S.net = [] → P i S → Half L W win (T + 3) (ticksSy L S) S' → P (i + 1) S')
    (hV : ∀ i S, P i S → P i (vtickSy S)) : ∀ (n i T : Nat) (S S' : SY), Stand L W win T (n + 1) S → S.v.tr.length + 2 * n < 1000 → P i S → calmTo L win n S S' → P (i + 2 * n) S' ∧ Stand L W win (T + 6 * n) 1 S' ∧ S'.v.tr.length ≤ S.v.tr.length + 2 * n
  | 0, i, T, S, S', h, _, hp, hc => by
    have e : S' = S := hc
    subst e
    exact ⟨hp, h, by omega⟩
  | n + 1, i, T, S, S', h, hcap, hp, hc => by
    obtain ⟨S1, ⟨m0, m1, m2, e0, e1, e2, e⟩, hc1⟩ := hc
    rw [runAll_nil h.net] at e0 e1 e2 e
    have h1 := half_step hL hW h.inv h.net h.lat (by omega) e1
    have p1 := hP i S _ T h.inv h.net hp h1
    have f1 := h1.few
    generalize runAll L win m1 (ticksSy L S) = A at h1 p1 f1 e1 e2 e
    have s1 : Stand L W win (T + 3) (n + 2) A := h1.stand h.left h.wins
    have h2 := half_step hL hW s1.inv s1.net s1.lat (by omega) e2
    have p2 := hP (i + 1) A _ (T + 3) s1.inv s1.net p1 h2
    have f2 := h2.few
    generalize runAll L win m2 (ticksSy L A) = B at h2 p2 f2 e2 e
    have s2 : Stand L W win (T + 3 + 3) (n + 2) B := h2.stand s1.left s1.wins
    subst e
    have s3 := s2.tick
    have hl := vtick_tr B
    obtain ⟨q1, q2, q3⟩ := rounds hL hW hP hV n (i + 1 + 1) (T + 3 + 3) (vtickSy B) S' s3 (by rw [hl]; omega) (hV _ _ p2) hc1
    refine ⟨?_, ?_, ?_⟩
    · rw [show i + 2 * (n + 1) = i + 1 + 1 + 2 * n by omega]; exact q1
    · rw [show T + 6 * (n + 1) = T + 3 + 3 + 6 * n by omega]; exact q2
    · rw [hl] at q3; omega
end
def CSeen (L : RC) (W : Seen) (liar : Nat) (S : SY) : Prop := ∀ k, k < 3 → k ≠ liar → ∀ n : Nat, (S.rp k).cycle ≤ n → SeenN W k n (fitN L.s (S.rp k).sx) (fitN L.n (S.rp k).sy)
structure ClInv (L : RC) (W : Seen) (liar win T : Nat) (S : SY) : Prop where
  inv : SInv L W liar win T S
  seen : CSeen L W liar S
section
variable {L : RC} {W : Seen} {liar win T n k : Nat} {S : SY}
theorem takeS_sees (F : FR) (R : RS) : (takeS L F R).sx = R.sx ∧ (takeS L F R).sy = R.sy := by
  unfold takeS
  split
  · unfold doneR
    split
    · exact ⟨rfl, rfl⟩
    · split <;> exact ⟨rfl, rfl⟩
  · split
    · exact ⟨rfl, rfl⟩
    · split
      · exact ⟨rfl, rfl⟩
      · split
        · exact ⟨rfl, rfl⟩
        · split
          · unfold learnR
            split <;> exact ⟨rfl, rfl⟩
          · exact ⟨rfl, rfl⟩
theorem CSeen.arrive (h : CSeen L W liar S) (i : Nat) : CSeen L W liar (arriveSy L win i S) := by
  intro k hk hl n hn
  have key : (S.rp k).cycle ≤ ((arriveSy L win i S).rp k).cycle ∧ ((arriveSy L win i S).rp k).sx = (S.rp k).sx ∧ ((arriveSy L win i S).rp k).sy = (S.rp k).sy := by
    unfold arriveSy comeSy
    split
    · exact ⟨Int.le_refl _, rfl, rfl⟩
    · split
      · exact ⟨Int.le_refl _, rfl, rfl⟩
      · show (S.rp k).cycle ≤ (upd S.rp _ _ k).cycle ∧ (upd S.rp _ _ k).sx = _ ∧ (upd S.rp _ _ k).sy = _
        by_cases e : k = (pkAt S.net i).dst
        · rw [← e, upd_same]; exact ⟨takeS_cycle _ _, takeS_sees _ _⟩
        · rw [upd_other _ _ e]; exact ⟨Int.le_refl _, rfl, rfl⟩
  rw [key.2.1, key.2.2]
  exact h k hk hl n (Int.le_trans key.1 hn)
theorem ClInv.runAll (hL : LOk L) : ∀ (m : Nat) (S : SY), ClInv L W liar win T S → ClInv L W liar win T (runAll L win m S)
  | 0, _, h => h
  | m + 1, S, h => by
    cases hnet : S.net with
    | nil => rw [runAll_nil hnet]; exact h
    | cons p l => exact ClInv.runAll hL m _ ⟨(h.inv.arrive hL (by rw [hnet]; simp)).1, h.seen.arrive 0⟩
theorem ClInv.tick (h : ClInv L W liar win T S) (hk : k < 3) : ClInv L W liar win (T + 1) (tickSy L k S) := by
  obtain ⟨n, c1, _⟩ := (h.inv.rp k hk).cyc
  refine ⟨h.inv.tick hk c1 fun hl => h.seen k hk hl n (by omega), fun j hj hl n hn => ?_⟩
  have key : ((tickSy L k S).rp j).cycle = (S.rp j).cycle ∧ ((tickSy L k S).rp j).sx = (S.rp j).sx ∧ ((tickSy L k S).rp j).sy = (S.rp j).sy := by
    show (upd S.rp k _ j).cycle = _ ∧ (upd S.rp k _ j).sx = _ ∧ (upd S.rp k _ j).sy = _
    by_cases e : j = k
    · subst e; rw [upd_same]; exact ⟨rfl, rfl, rfl⟩
    · rw [upd_other _ _ e]; exact ⟨rfl, rfl, rfl⟩
  rw [key.2.1, key.2.2]
  exact h.seen j hj hl n (by rw [key.1] at hn; exact hn)
theorem ClInv.vtick (h : ClInv L W liar win T S) : ClInv L W liar win T (vtickSy S) := ⟨h.inv.vtick, h.seen⟩
def tickTo (L : RC) (S : SY) : Nat → SY
  | 0 => S
  | k + 1 => tickSy L k (tickTo L S k)
theorem ClInv.ticks (h : ClInv L W liar win T S) : ∀ k, k ≤ 3 → ClInv L W liar win (T + k) (tickTo L S k)
  | 0, _ => h
  | k + 1, hk => (h.ticks k (by omega)).tick (by omega)
def halfTo (L : RC) (win : Nat) : Nat → SY → SY → Prop
  | 0, S, S' => S' = S
  | j + 1, S, S' => ∃ S1 m, halfTo L win j S S1 ∧ S' = runAll L win m (ticksSy L S1) ∧ S'.net = []
theorem round_of {m : Nat} {S1 S2 : SY} (hm : (runAll L win m S).net = []) (hh : halfTo L win 2 (runAll L win m S) S2) (e : S1 = vtickSy S2) : roundTo L win S S1 := by
  obtain ⟨A, m2, ⟨B, m1, hB, hA, nA⟩, h2, n2⟩ := hh
  have hB' : B = runAll L win m S := hB
  subst hB'
  subst hA
  subst h2
  exact ⟨m, m1, m2, hm, nA, n2, e⟩
theorem calm_snoc {S' S2 : SY} : ∀ {k : Nat} {S : SY}, calmTo L win k S S' → roundTo L win S' S2 → calmTo L win (k + 1) S S2
  | 0, S, h, hr => by
    have e : S' = S := h
    subst e
    exact ⟨S2, hr, rfl⟩
  | k + 1, S, ⟨A, hA, hk⟩, hr => ⟨A, hA, calm_snoc hk hr⟩
end
theorem SyIs.vt6 {w : World} {N win : Nat} {D : SC} {L : RC} {S : SY} (h : SyIs w N D L win S) : w.cell? ⟨D.p, 6, none⟩ = some (.pointer (some ⟨D.vp, 0, none⟩)) := (h.at 6).trans rfl
set_option maxHeartbeats 4000000 in
set_option maxRecDepth 20000 in
theorem calm_any {W : Seen} {liar T : Nat} (N : Nat) (D : SC) (L : RC) (win : Nat) (S : SY) (w : World) (n : Nat) (h : SyIs w N D L win S) (hI : ClInv L W liar win T S) (hL : LOk L) (hT : T + 6 * n < 7000000) (hn : n ≤ 1000) (hN : N ≤ w.heap.size) :
    Calls Tryz.prog 18 #[.pointer (some ⟨D.p, 0, none⟩), .int .i64 (n : Int)] w fun e w' => e = .returned (.tuple #[]) ∧ ∃ S', calmTo L win n S S' ∧ ClInv L W liar win (T + 6 * n) S' ∧ SyGo w w' N D L win S' := by
  have HST : Hid (∃ S', calmTo L win 0 S S' ∧ ClInv L W liar win (T + 6 * 0) S' ∧ SyGo w w N D L win S') := hide ⟨S, rfl, hI, h.goes⟩
  have HL := hide hL
  have hall : ∀ (wr : World) (S' : SY) (T' : Nat), T' < 8000000 → ClInv L W liar win T' S' → SyGo w wr N D L win S' → Calls Tryz.prog 48 #[.pointer (some ⟨D.p, 0, none⟩)] wr fun e w' => e = .returned (.tuple #[]) ∧ Hid (∃ m, (runAll L win m S').net = [] ∧ ClInv L W liar win T' (runAll L win m S') ∧ SyGo w w' N D L win (runAll L win m S')) := by
    intro wr S' T' hT' hI' hg
    obtain ⟨D1, hp1, hS1, hm1, hg1⟩ := hg
    obtain ⟨m, hm⟩ := hI'.inv.ends HL.out
    have hc := arriveAll_any N D1 L win S' wr m hS1 hI'.inv HL.out hT' (Nat.le_trans hN hm1.size) hm
    rw [hp1] at hc
    refine hc.mono ?_
    rintro e w2 ⟨rfl, hg⟩
    exact ⟨rfl, hide ⟨m, hm, ClInv.runAll HL.out m S' hI', SyGo.then hp1 hm1 hg1 hg⟩⟩
  have htick : ∀ (wr : World) (S' : SY) (T' k : Nat), k < 3 → T' < 8000000 → ClInv L W liar win T' S' → SyGo w wr N D L win S' → Calls Tryz.prog 49 #[.pointer (some ⟨D.p, 0, none⟩), .int .i64 (k : Int)] wr fun e w' => e = .returned (.tuple #[]) ∧ Hid (ClInv L W liar win (T' + 1) (tickSy L k S') ∧ SyGo w w' N D L win (tickSy L k S')) := by
    intro wr S' T' k hk hT' hI' hg
    obtain ⟨D1, hp1, hS1, hm1, hg1⟩ := hg
    obtain ⟨hok, _⟩ := (hI'.inv.rp k hk).ok hk HL.out hT' hI'.inv.vok.few
    have hc := tickRep_any N D1 L win S' wr k hk hS1 hok (hI'.inv.rp k hk).id (Nat.le_trans hN hm1.size) hI'.inv.many
    rw [hp1] at hc
    refine hc.mono ?_
    rintro e w2 ⟨rfl, hg⟩
    exact ⟨rfl, hide ⟨hI'.tick hk, SyGo.then hp1 hm1 hg1 hg⟩⟩
  have hvt : ∀ (wr : World) (S' : SY) (T' : Nat), ClInv L W liar win T' S' → SyGo w wr N D L win S' → ∃ vp : Nat, wr.cell? ⟨D.p, 6, none⟩ = some (.pointer (some ⟨vp, 0, none⟩)) ∧ Hid (Calls Tryz.prog 50 #[.pointer (some ⟨vp, 0, none⟩)] wr fun e w' => e = .returned (.tuple #[]) ∧ SyGo w w' N D L win (vtickSy S')) := by
    intro wr S' T' hI' hg
    obtain ⟨D1, hp1, hS1, hm1, hg1⟩ := hg
    refine ⟨D1.vp, by rw [← hp1]; exact hS1.vt6, hide ?_⟩
    refine (tick_any N D1.vp win D1.tv S'.v wr hS1.vt hI'.inv.vok).mono ?_
    rintro e w2 ⟨rfl, hV, hm⟩
    exact ⟨rfl, SyGo.then hp1 hm1 hg1 (hS1.putV hm hV (Moved.refl _ _))⟩
  have HALL := hide hall
  have HTK := hide htick
  have HVT := hide hvt
  clear hall htick hvt h hI hL
  go_enter Tryz.func18, Tryz.ntmps18
  go_wp2_with fail
  go_loopw [6] (fun j wr => ∃ k : Nat, k ≤ n ∧ j = .int .i64 k ∧ ∃ S', calmTo L win k S S' ∧ ClInv L W liar win (T + 6 * k) S' ∧ SyGo w wr N D L win S') (fun j _ => n - (intOf j).toNat)
  case atStart => exact ⟨0, by omega, rfl, HST.out⟩
  case round =>
    obtain ⟨k, hk, rfl, S', hcal, hI', hgo⟩ := hrel
    clear HST
    by_cases hkn : k < n
    · have hk' : (k : Int) < (n : Int) := by omega
      have HC1 := hide (HALL.out wr S' (T + 6 * k) (by omega) hI' hgo)
      have HCAL := hide hcal
      clear hcal hI' hgo
      go_wp2_with fail
      refine HC1.out.mono ?_
      rintro e w1 ⟨rfl, HG1⟩
      clear HC1
      obtain ⟨m0, hm0, hI0, hg0⟩ := HG1.out
      obtain ⟨S0, hS0⟩ : ∃ S0, Hid (runAll L win m0 S' = S0) := ⟨_, hide rfl⟩
      rw [hS0.out] at hm0 hI0 hg0
      have HM0 := hide hm0
      have HS2 : Hid (∃ S2, halfTo L win 0 S0 S2 ∧ ClInv L W liar win (T + 6 * k + 3 * 0) S2 ∧ SyGo w w1 N D L win S2) := hide ⟨S0, rfl, hI0, hg0⟩
      clear HG1 hm0 hI0 hg0
      go_wp2_with fail
      go_loopw [10] (fun j wr => ∃ a : Nat, a ≤ 2 ∧ j = .int .i64 a ∧ ∃ S2, halfTo L win a S0 S2 ∧ ClInv L W liar win (T + 6 * k + 3 * a) S2 ∧ SyGo w wr N D L win S2) (fun j _ => 2 - (intOf j).toNat)
      case atStart => exact ⟨0, by omega, rfl, HS2.out⟩
      case round =>
        obtain ⟨a, ha, rfl, S2, hh, hI2, hg2⟩ := hrel
        clear HS2
        by_cases ha2 : a < 2
        · have ha' : (a : Int) < 2 := by omega
          have HH := hide hh
          have HS3 : Hid (ClInv L W liar win (T + 6 * k + 3 * a + 0) (tickTo L S2 0) ∧ SyGo w wr N D L win (tickTo L S2 0)) := hide ⟨hI2, hg2⟩
          clear hh hI2 hg2
          go_wp2_with fail
          go_loopw [12] (fun j wr => ∃ b : Nat, b ≤ 3 ∧ j = .int .i64 b ∧ ClInv L W liar win (T + 6 * k + 3 * a + b) (tickTo L S2 b) ∧ SyGo w wr N D L win (tickTo L S2 b)) (fun j _ => 3 - (intOf j).toNat)
          case atStart => exact ⟨0, by omega, rfl, HS3.out⟩
          case round =>
            obtain ⟨b, hb, rfl, hI3, hg3⟩ := hrel
            clear HS3
            by_cases hb3 : b < 3
            · have hb' : (b : Int) < 3 := by omega
              have HC3 := hide (HTK.out wr (tickTo L S2 b) (T + 6 * k + 3 * a + b) b hb3 (by omega) hI3 hg3)
              clear hI3 hg3
              go_wp2_with fail
              refine HC3.out.mono ?_
              rintro e w3 ⟨rfl, HG3⟩
              clear HC3
              go_wp2
              go_roundw
              case rel => exact ⟨b + 1, by omega, by go_num, HG3.out⟩
              case measure => simp [intOf]; omega
            · have e3 : b = 3 := by omega
              subst e3
              have HC4 := hide (HALL.out wr (tickTo L S2 3) (T + 6 * k + 3 * a + 3) (by omega) hI3 hg3)
              clear hI3 hg3
              go_wp2_with fail
              refine HC4.out.mono ?_
              rintro e w4 ⟨rfl, HG4⟩
              clear HC4
              go_wp2
              go_roundw
              case rel =>
                obtain ⟨m, hm, hI4, hg4⟩ := HG4.out
                exact ⟨a + 1, by omega, by go_num, _, ⟨S2, m, HH.out, rfl, hm⟩, hI4, hg4⟩
              case measure => simp [intOf]; omega
        · have e2 : a = 2 := by omega
          subst e2
          obtain ⟨vp, cv, HV⟩ := HVT.out wr S2 _ hI2 hg2
          have HEND : Hid (calmTo L win (k + 1) S (vtickSy S2) ∧ ClInv L W liar win (T + 6 * k + 3 * 2) (vtickSy S2)) := hide ⟨calm_snoc HCAL.out (round_of (m := m0) (S2 := S2) (by rw [hS0.out]; exact HM0.out) (by rw [hS0.out]; exact hh) rfl), hI2.vtick⟩
          clear hh hI2 hg2
          go_wp2_with fail
          refine HV.out.mono ?_
          rintro e w5 ⟨rfl, hg5⟩
          go_wp2
          go_roundw
          case rel => exact ⟨k + 1, by omega, by go_num, _, HEND.out.1, HEND.out.2, hg5⟩
          case measure => simp [intOf]; omega
    · have e3 : k = n := by omega
      have hk' : ¬ (k : Int) < (n : Int) := by omega
      have HE : Hid (∃ S', calmTo L win n S S' ∧ ClInv L W liar win (T + 6 * n) S' ∧ SyGo w wr N D L win S') := hide (by rw [← e3]; exact ⟨S', hcal, hI', hgo⟩)
      clear hcal hI' hgo e3
      go_wp2
      go_end0
      exact ⟨rfl, HE.out⟩
section
variable {W : Seen} {liar T : Nat}
theorem many_any (N : Nat) (D : SC) (L : RC) (win : Nat) (S : SY) (w : World) (h : SyIs w N D L win S) :
    Calls Tryz.prog 23 #[.pointer (some ⟨D.p, 0, none⟩)] w fun e w' => e = .returned (.int .i64 (S.net.length : Int)) ∧ w' = w := by
  obtain ⟨a, cap, c7⟩ := h.net7
  clear h
  go_enter Tryz.func23, Tryz.ntmps23
  go_wp2
  go_ret
  exact ⟨rfl, rfl⟩
theorem sylatch_any (N : Nat) (D : SC) (L : RC) (win : Nat) (S : SY) (w : World) (h : SyIs w N D L win S) :
    Calls Tryz.prog 34 #[.pointer (some ⟨D.p, 0, none⟩)] w fun e w' => e = .returned (.tuple #[]) ∧ SyGo w w' N D L win (latchSy S) := by
  have c6 := h.vt6
  have HC : Hid (Calls Tryz.prog 66 #[.pointer (some ⟨D.vp, 0, none⟩)] w fun e w' => e = .returned (.tuple #[]) ∧ SyGo w w' N D L win (latchSy S)) := hide (by
    refine (latch_any N D.vp win D.tv S.v w h.vt).mono ?_
    rintro e w2 ⟨rfl, hV, hm⟩
    exact ⟨rfl, h.putV hm hV (Moved.refl _ _)⟩)
  clear h
  go_enter Tryz.func34, Tryz.ntmps34
  go_wp2_with fail
  refine HC.out.mono ?_
  rintro e w2 ⟨rfl, hg⟩
  go_wp2
  go_end0
  exact ⟨rfl, hg⟩
theorem isRep_lt {k : Nat} (hk : k < 3) : isRep (k : Int) = true := by unfold isRep; simp; omega
theorem sytick_any (N : Nat) (D : SC) (L : RC) (win : Nat) (S : SY) (w : World) (k : Nat) (hk : k < 3) (h : SyIs w N D L win S) (hI : SInv L W liar win T S) (hL : LOk L) (hT : T < 8000000) (hN : N ≤ w.heap.size) :
    Calls Tryz.prog 25 #[.pointer (some ⟨D.p, 0, none⟩), .int .i64 (k : Int)] w fun e w' => e = .returned .nilIface ∧ SyGo w w' N D L win (tickSy L k S) := by
  obtain ⟨hok, _⟩ := (hI.rp k hk).ok hk hL hT hI.vok.few
  have HC := hide (tickRep_any N D L win S w k hk h hok (hI.rp k hk).id hN hI.many)
  have HR := hide (sysRep_any (k : Int) w)
  rw [isRep_lt hk] at HR
  clear h hI hok
  go_enter Tryz.func25, Tryz.ntmps25
  go_wp2_with fail
  refine HR.out.mono ?_
  rintro e wz ⟨rfl, rfl⟩
  go_wp2_with fail
  refine HC.out.mono ?_
  rintro e w2 ⟨rfl, hg⟩
  go_wp2
  go_ret
  exact ⟨rfl, hg⟩
theorem sytick3_any (N : Nat) (D : SC) (L : RC) (win : Nat) (S : SY) (w : World) (h : SyIs w N D L win S) (hok : VOk win S.v) :
    Calls Tryz.prog 25 #[.pointer (some ⟨D.p, 0, none⟩), .int .i64 3] w fun e w' => e = .returned .nilIface ∧ SyGo w w' N D L win (vtickSy S) := by
  have HR := hide (sysRep_any 3 w)
  rw [show isRep 3 = false from rfl] at HR
  have c6 := h.vt6
  have HC : Hid (Calls Tryz.prog 50 #[.pointer (some ⟨D.vp, 0, none⟩)] w fun e w' => e = .returned (.tuple #[]) ∧ SyGo w w' N D L win (vtickSy S)) := hide (by
    refine (tick_any N D.vp win D.tv S.v w h.vt hok).mono ?_
    rintro e w2 ⟨rfl, hV, hm⟩
    exact ⟨rfl, h.putV hm hV (Moved.refl _ _)⟩)
  clear h hok
  go_enter Tryz.func25, Tryz.ntmps25
  go_wp2_with fail
  refine HR.out.mono ?_
  rintro e wz ⟨rfl, rfl⟩
  go_wp2_with fail
  refine HC.out.mono ?_
  rintro e w2 ⟨rfl, hg⟩
  go_wp2
  go_ret
  exact ⟨rfl, hg⟩
theorem syasks_any (N : Nat) (D : SC) (L : RC) (win : Nat) (S : SY) (w : World) (k : Nat) (hk : k < 3) (h : SyIs w N D L win S) (hI : SInv L W liar win T S) (hN : N ≤ w.heap.size) :
    Calls Tryz.prog 26 #[.pointer (some ⟨D.p, 0, none⟩), .int .i64 (k : Int)] w fun e w' => e = .returned .nilIface ∧ SyGo w w' N D L win (asksSy k S) := by
  have HR := hide (sysRep_any (k : Int) w)
  rw [isRep_lt hk] at HR
  have hk' : (k : Int) < 3 := by omega
  have cr := h.rpAt hk
  have hid := (hI.rp k hk).id
  have HC : Hid (Calls Tryz.prog 54 #[.pointer (some ⟨D.rp k, 0, none⟩)] w fun e w1 => e = .returned (.agg (fCells (asksR (S.rp k)))) ∧ Hid (Calls Tryz.prog 53 #[.pointer (some ⟨D.p, 0, none⟩), .agg (fCells (asksR (S.rp k)))] w1 fun e w' => e = .returned (.tuple #[]) ∧ SyGo w w' N D L win (asksSy k S))) := hide (by
    refine (asks_any (D.rp k) (D.C k) (S.rp k) w (h.rp k hk)).mono ?_
    rintro e w1 ⟨rfl, hB⟩
    refine ⟨rfl, hide ?_⟩
    refine (sendOthers_any N D L win S w1 (asksR (S.rp k)) k (h.below hB) (by show ((S.rp k).id : Int) = _; rw [hid]) (Nat.le_trans hN hB.size) hI.many).mono ?_
    rintro e w2 ⟨rfl, hg⟩
    exact ⟨rfl, hg.pre hB⟩)
  clear h hI
  go_enter Tryz.func26, Tryz.ntmps26
  go_wp2_with fail
  refine HR.out.mono ?_
  rintro e wz ⟨rfl, rfl⟩
  go_wp2_with fail
  refine HC.out.mono ?_
  rintro e w1 ⟨rfl, HS⟩
  go_wp2_with fail
  refine HS.out.mono ?_
  rintro e w2 ⟨rfl, hg⟩
  go_wp2
  go_ret
  exact ⟨rfl, hg⟩
theorem deliver_any (N : Nat) (D : SC) (L : RC) (win : Nat) (S : SY) (w : World) (i : Nat) (h : SyIs w N D L win S) (hI : SInv L W liar win T S) (hL : LOk L) (hT : T < 8000000) (hN : N ≤ w.heap.size) :
    Calls Tryz.prog 27 #[.pointer (some ⟨D.p, 0, none⟩), .int .i64 (i : Int)] w fun e w' => (∃ v, e = .returned v) ∧ SyGo w w' N D L win (if i < S.net.length then arriveSy L win i S else S) := by
  have HR := hide (underWay_any N D L win S w i h)
  by_cases hi : i < S.net.length
  · rw [decide_eq_true hi] at HR
    rw [if_pos hi]
    have HC := hide (arrive_any N D L win S w i h hI hL hT hi hN)
    clear h hI
    go_enter Tryz.func27, Tryz.ntmps27
    go_wp2_with fail
    refine HR.out.mono ?_
    rintro e wz ⟨rfl, rfl⟩
    go_wp2_with fail
    refine HC.out.mono ?_
    rintro e w2 ⟨rfl, hg⟩
    go_wp2
    go_ret
    exact ⟨⟨_, rfl⟩, hg⟩
  · rw [decide_eq_false hi] at HR
    rw [if_neg hi]
    have HG := hide h.goes
    clear h hI
    go_enter Tryz.func27, Tryz.ntmps27
    go_wp2_with fail
    refine HR.out.mono ?_
    rintro e wz ⟨rfl, rfl⟩
    go_wp2
    go_ret
    exact ⟨⟨_, rfl⟩, HG.out⟩
theorem lose_any (N : Nat) (D : SC) (L : RC) (win : Nat) (S : SY) (w : World) (i : Nat) (h : SyIs w N D L win S) (hle : S.net.length ≤ 120) :
    Calls Tryz.prog 28 #[.pointer (some ⟨D.p, 0, none⟩), .int .i64 (i : Int)] w fun e w' => (∃ v, e = .returned v) ∧ SyGo w w' N D L win (if i < S.net.length then outSy i S else S) := by
  have HR := hide (underWay_any N D L win S w i h)
  by_cases hi : i < S.net.length
  · rw [decide_eq_true hi] at HR
    rw [if_pos hi]
    have HC := hide (remove_any N D L win S w i h hi hle)
    clear h
    go_enter Tryz.func28, Tryz.ntmps28
    go_wp2_with fail
    refine HR.out.mono ?_
    rintro e wz ⟨rfl, rfl⟩
    go_wp2_with fail
    refine HC.out.mono ?_
    rintro e w2 ⟨rfl, hg⟩
    go_wp2
    go_ret
    exact ⟨⟨_, rfl⟩, hg⟩
  · rw [decide_eq_false hi] at HR
    rw [if_neg hi]
    have HG := hide h.goes
    clear h
    go_enter Tryz.func28, Tryz.ntmps28
    go_wp2_with fail
    refine HR.out.mono ?_
    rintro e wz ⟨rfl, rfl⟩
    go_wp2
    go_ret
    exact ⟨⟨_, rfl⟩, HG.out⟩
set_option maxHeartbeats 1000000 in
set_option maxRecDepth 20000 in
theorem twice_any (N : Nat) (D : SC) (L : RC) (win : Nat) (S : SY) (w : World) (i : Nat) (h : SyIs w N D L win S) (hle : S.net.length ≤ 120) (hN : N ≤ w.heap.size) :
    Calls Tryz.prog 29 #[.pointer (some ⟨D.p, 0, none⟩), .int .i64 (i : Int)] w fun e w' => (∃ v, e = .returned v) ∧ SyGo w w' N D L win (if i < S.net.length then putSy (pkAt S.net i) S else S) := by
  have HR := hide (underWay_any N D L win S w i h)
  by_cases hi : i < S.net.length
  · rw [decide_eq_true hi] at HR
    rw [if_pos hi]
    have hi' : (i : Int) < (S.net.length : Int) := by omega
    obtain ⟨g, cap, hnv⟩ := h.netHas (by omega)
    have hrg := h.pkRange hnv hi
    have hby := h.bytes hi
    have hput := syput_any N D L win S w (pkAt S.net i) _ h hby hN hle
    have c7 : w.cell? ⟨D.p, 7, none⟩ = some (.slice (some ⟨g, 0, none⟩) S.net.length cap) := (h.at 7).trans (by show some D.nv = _; rw [hnv])
    obtain ⟨q, hq⟩ : ∃ q, Hid (pkAt S.net i = q) := ⟨_, hide rfl⟩
    obtain ⟨u, hu⟩ : ∃ u, Hid (D.us[i]?.getD undef = u) := ⟨_, hide rfl⟩
    rw [hq.out, hu.out] at hrg hput
    rw [hq.out]
    have HC := hide hput
    have HRG := hide hrg
    clear h hput hrg hby hnv
    go_enter Tryz.func29, Tryz.ntmps29
    go_wp2_with fail
    refine HR.out.mono ?_
    rintro e wz ⟨rfl, rfl⟩
    go_wp2_with (refine wpList_load_mid rfl 103 _ rfl g (i * 3) rfl _ _ HRG.out Tryz.underlying103 rfl (by rw [infoPacket3]; rfl) ?_)
    refine HC.out.mono ?_
    rintro e w2 ⟨rfl, hg⟩
    go_wp2
    go_ret
    exact ⟨⟨_, rfl⟩, hg⟩
  · rw [decide_eq_false hi] at HR
    rw [if_neg hi]
    have HG := hide h.goes
    clear h
    go_enter Tryz.func29, Tryz.ntmps29
    go_wp2_with fail
    refine HR.out.mono ?_
    rintro e wz ⟨rfl, rfl⟩
    go_wp2
    go_ret
    exact ⟨⟨_, rfl⟩, HG.out⟩
end
end Go.Proofs.YtaablbmgagiajaaGreatDoor
