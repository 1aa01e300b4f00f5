/- What holds while the reference takes a state over; when it may be. -/
import Derived.Test.YtpkfgpagkgmpcaaDoorRefInv
import Derived.Test.YtpkfgpagkgmpcaaDoorPlayRight2
import Derived.Test.YtpkfgpagkgmpcaaDoorRefHit
namespace Go.Proofs.YtpkfgpagkgmpcaaDoor
open Go.RowKit Go.Deep

/-- What holds while a state is taken over: N is the heap's size at the beginning. -/
structure KInv (w wr : World) (N : Nat) (G : GS) (pr sn d n b off cp gr cr : Nat) (bm0 bm : Nat → Nat) (zs : List Int) (X : St) : Prop where
  tn : Turns w wr gr n bm0
  ref : RefIs wr pr (sn : Int) (d : Int) n b off cp gr cr bm X
  own : ∀ i, i < n → (∃ j, j < n ∧ bm i = bm0 j) ∨ N ≤ bm i
  st : GIs wr N G
  row : Row wr b off zs
theorem KInv.move {w wr wx : World} {N : Nat} {G : GS} {pr sn d n b off cp gr cr : Nat} {bm0 bm bm' : Nat → Nat} {zs : List Int} {X Y : St} (h : KInv w wr N G pr sn d n b off cp gr cr bm0 bm zs X) (ht : Turns w wx gr n bm0) (hr : RefIs wx pr (sn : Int) (d : Int) n b off cp gr cr bm' Y)
    (ho : ∀ i, i < n → (∃ j, j < n ∧ bm' i = bm0 j) ∨ N ≤ bm' i) (hs : ∀ k, k = N ∨ k = b → wx.heap[k]? = wr.heap[k]?) : KInv w wx N G pr sn d n b off cp gr cr bm0 bm' zs Y :=
  ⟨ht, hr, ho, (hs _ (.inl rfl)).trans h.st, fun k hk => (World.cell?_of_block (w := wr) (hs b (.inr rfl))).trans (h.row k hk)⟩
theorem KInv.below {w wr wx : World} {N : Nat} {G : GS} {pr sn d n b off cp gr cr : Nat} {bm0 bm : Nat → Nat} {zs : List Int} {X : St} (h : KInv w wr N G pr sn d n b off cp gr cr bm0 bm zs X) (hN : N = w.heap.size) (hf : Far N gr n b bm0) (hB : Below wr.heap.size wr wx) : KInv w wx N G pr sn d n b off cp gr cr bm0 bm zs X := by
  refine h.move (h.tn.below hB) (h.ref.below hB) h.own ?_
  rintro k (rfl | rfl)
  · exact hB.block _ h.st.lt
  · exact hB.block _ (Nat.lt_of_lt_of_le (by have := hf.bN; omega) h.tn.size)
theorem KInv.drewN {w wr : World} {N : Nat} {G : GS} {pr sn d n b off cp gr cr : Nat} {bm0 bm : Nat → Nat} {zs : List Int} {X : St} (h : KInv w wr N G pr sn d n b off cp gr cr bm0 bm zs X) (k : Nat) : KInv w (wr.drewN k) N G pr sn d n b off cp gr cr bm0 bm zs X :=
  h.move (h.tn.drewN k) (h.ref.same fun _ _ => rfl) h.own fun _ _ => rfl
/-- Another map is written. -/
theorem KInv.other {w wr wx : World} {N : Nat} {G : GS} {pr sn d n b off cp gr cr : Nat} {bm0 bm : Nat → Nat} {zs : List Int} {X : St} (h : KInv w wr N G pr sn d n b off cp gr cr bm0 bm zs X) (hf : Far N gr n b bm0) (hN : N = w.heap.size) {q U : Nat} (hq : IsSet wr q U) (hqN : N ≤ q) (hb : ∀ j, j < n → bm j ≠ q) (hg : wr.grownBy wx (some q)) :
    KInv w wx N G pr sn d n b off cp gr cr bm0 bm zs X := by
  have hne : ∀ {k : Nat} {c : Array Value} {t : TypeId} {f : Nat × Nat}, wr.heap[k]? = some (.cells c t f) → wx.heap[k]? = wr.heap[k]? := fun {k} _ _ _ hk => hg.block k (blk_lt hk) (fun e => by
    simp only [Option.some.injEq] at e
    rw [e] at hk
    exact hq.notCells hk)
  obtain ⟨cs, h0, h1⟩ := h.ref.row
  refine h.move (h.tn.map hg (.inr (by omega))) ⟨(hne h.ref.blk).trans h.ref.blk, ⟨cs, (hne h0).trans h0, h1⟩, h.ref.cap, fun j hj => (h.ref.maps j hj).same (hg.block _ (h.ref.maps j hj).lt (by simp only [ne_eq, Option.some.injEq]; exact hb j hj)), h.ref.inj⟩ h.own ?_
  rintro k (rfl | rfl)
  · exact hne h.st
  · exact hg.block _ (Nat.lt_of_lt_of_le (by have := hf.bN; omega) h.tn.size) (by simp only [ne_eq, Option.some.injEq]; have := hf.bN; omega)

/-- A route's three cells are written, with a map that lies there. -/
theorem RefIs.load {w : World} {pr : Nat} {s d : Int} {n b off cp gr cr : Nat} {bm : Nat → Nat} {S : St} (h : RefIs w pr s d n b off cp gr cr bm S) {i : Nat} (hi : i < n) (hb0 : S.set.testBit i = false) (q U : Nat) (t : Int) (sb : Bool) (hq : IsSet w q U) (hne : ∀ j, j < n → bm j ≠ q) :
    RefIs (((w.setCell ⟨gr, i * 3, none⟩ (.bool sb)).setCell ⟨gr, i * 3 + 1, none⟩ (.map (some q))).setCell ⟨gr, i * 3 + 2, none⟩ (.int .i64 t)) pr s d n b off cp gr cr (upd bm i q) ⟨if sb then S.set ||| 2 ^ i else S.set, upd S.used i U, upd S.idle i t⟩ := by
  obtain ⟨cs, h0, h1⟩ := h.row
  have hpg : pr ≠ gr := fun e => by have := h.blk; rw [e, h0] at this; injection this with e1; injection e1 with _ e2; exact absurd e2 (by decide)
  have hsz : i * 3 + 2 < cs.size := by have := (h1 i hi).2.2; exact (Array.getElem?_eq_some_iff.1 this).1
  have hk : ∀ k, k ≠ gr → (((w.setCell ⟨gr, i * 3, none⟩ (.bool sb)).setCell ⟨gr, i * 3 + 1, none⟩ (.map (some q))).setCell ⟨gr, i * 3 + 2, none⟩ (.int .i64 t)).heap[k]? = w.heap[k]? := fun k hk => by
    rw [Below.heap_setCell _ _ _ _ hk, Below.heap_setCell _ _ _ _ hk, Below.heap_setCell _ _ _ _ hk]
  have hmg : ∀ j, j < n → bm j ≠ gr := fun j hj e => by have := h.maps j hj; rw [e] at this; exact this.notCells h0
  have hqg : q ≠ gr := fun e => by rw [e] at hq; exact hq.notCells h0
  refine ⟨(hk _ hpg).trans h.blk, ⟨_, blk_set (blk_set (blk_set h0 _ _) _ _) _ _, fun j hj => ?_⟩, h.cap, fun j hj => ?_, ?_⟩
  · obtain ⟨e1, e2, e3⟩ := h1 j hj
    have hbit : (if sb then S.set ||| 2 ^ i else S.set).testBit j = if i = j then sb else S.set.testBit j := by
      by_cases e : i = j
      · subst e
        rw [if_pos rfl]
        cases sb
        · exact hb0
        · rw [if_pos rfl, Nat.testBit_or, two_bit]; simp
      · rw [if_neg e]
        cases sb
        · rfl
        · rw [if_pos rfl, Nat.testBit_or, two_bit, decide_eq_false e]; simp
    rw [hbit]
    simp only [Array.getElem?_setIfInBounds, Array.size_setIfInBounds]
    by_cases e : i = j
    · subst e
      have a3 : i * 3 < cs.size := by omega
      have a4 : i * 3 + 1 < cs.size := by omega
      simp [hsz, upd, a3, a4]
    · have a1 : ¬ i * 3 + 2 = j * 3 := by omega
      have a2 : ¬ i * 3 + 1 = j * 3 := by omega
      have a3 : ¬ i * 3 = j * 3 := by omega
      have b1 : ¬ i * 3 + 2 = j * 3 + 1 := by omega
      have b2 : ¬ i * 3 + 1 = j * 3 + 1 := by omega
      have b3 : ¬ i * 3 = j * 3 + 1 := by omega
      have c1 : ¬ i * 3 + 2 = j * 3 + 2 := by omega
      have c2 : ¬ i * 3 + 1 = j * 3 + 2 := by omega
      have c3 : ¬ i * 3 = j * 3 + 2 := by omega
      rw [if_neg a1, if_neg a2, if_neg a3, if_neg b1, if_neg b2, if_neg b3, if_neg c1, if_neg c2, if_neg c3, e1, e2, e3]
      simp [upd, Ne.symm e, e]
  · by_cases e : j = i
    · subst e
      simp only [upd, if_true]
      exact hq.same (hk _ hqg)
    · simp only [upd, e, if_false]
      exact (h.maps j hj).same (hk _ (hmg j hj))
  · intro j k hj hk2 hjk
    unfold upd
    by_cases ej : j = i
    · rw [if_pos ej, if_neg (by omega)]; exact fun e => hne k hk2 e.symm
    · rw [if_neg ej]
      by_cases ek : k = i
      · rw [if_pos ek]; exact hne j hj
      · rw [if_neg ek]; exact h.inj j k hj hk2 hjk
theorem KInv.load {w wr : World} {N : Nat} {G : GS} {pr sn d n b off cp gr cr : Nat} {bm0 bm : Nat → Nat} {zs : List Int} {X : St} (h : KInv w wr N G pr sn d n b off cp gr cr bm0 bm zs X) (hf : Far N gr n b bm0) {i : Nat} (hi : i < n) (hb0 : X.set.testBit i = false) (q U : Nat) (t : Int) (sb : Bool) (hq : IsSet wr q U) (hqN : N ≤ q) (hne : ∀ j, j < n → bm j ≠ q) :
    KInv w (((wr.setCell ⟨gr, i * 3, none⟩ (.bool sb)).setCell ⟨gr, i * 3 + 1, none⟩ (.map (some q))).setCell ⟨gr, i * 3 + 2, none⟩ (.int .i64 t)) N G pr sn d n b off cp gr cr bm0 (upd bm i q) zs ⟨if sb then X.set ||| 2 ^ i else X.set, upd X.used i U, upd X.idle i t⟩ := by
  refine h.move (((h.tn.setRow _ _).setRow _ _).setRow _ _) (h.ref.load hi hb0 q U t sb hq hne) (fun j hj => ?_) ?_
  · unfold upd
    split
    · exact .inr hqN
    · exact h.own j hj
  · have h1 := hf.gN
    have h2 := hf.bg
    rintro k (rfl | rfl)
    · rw [Below.heap_setCell _ _ _ _ (by show _ ≠ gr; omega), Below.heap_setCell _ _ _ _ (by show _ ≠ gr; omega), Below.heap_setCell _ _ _ _ (by show _ ≠ gr; omega)]
    · rw [Below.heap_setCell _ _ _ _ h2, Below.heap_setCell _ _ _ _ h2, Below.heap_setCell _ _ _ _ h2]

/-- A state that may be, as sets. -/
def gSt (G : GS) : St := ⟨G.set.toNat, fun k => (G.used k).toNat, G.idle⟩
theorem part_false (S : St) (i : Nat) : (part S i).set.testBit i = false := by
  show (S.set % 2 ^ i).testBit i = false
  exact Nat.testBit_lt_two_pow (Nat.mod_lt _ (Nat.two_pow_pos i))
theorem part_step (S : St) (i : Nat) (q : Nat) (t : Int) (hq : S.used i = q) (ht : S.idle i = t) : part S (i + 1) = ⟨if S.set.testBit i then (part S i).set ||| 2 ^ i else (part S i).set, upd (part S i).used i q, upd (part S i).idle i t⟩ := by
  subst hq ht
  rw [← part_used, ← part_idle]
  have e : S.set % 2 ^ (i + 1) = if S.set.testBit i then S.set % 2 ^ i ||| 2 ^ i else S.set % 2 ^ i := by
    apply Nat.eq_of_testBit_eq
    intro k
    have h1 : ∀ x y : Nat, (x % 2 ^ y).testBit k = (decide (k < y) && x.testBit k) := fun x y => Nat.testBit_mod_two_pow x y k
    by_cases hk : k = i
    · subst hk
      cases hb : S.set.testBit k
      · rw [if_neg (by decide), h1, h1, hb]; simp
      · rw [if_pos rfl, Nat.testBit_or, h1, h1, two_bit, hb]; simp
    · have hd : decide (k < i + 1) = decide (k < i) := by rw [decide_eq_decide]; omega
      split
      · rw [Nat.testBit_or, h1, h1, two_bit, decide_eq_false (show ¬ i = k from fun e => hk e.symm), hd]; simp
      · rw [h1, h1, hd]
  unfold part
  rw [e]
theorem mod_step (U k : Nat) : U % 2 ^ (k + 1) = if U.testBit k then U % 2 ^ k ||| 2 ^ k else U % 2 ^ k := by
  have := congrArg St.set (part_step ⟨U, fun _ => 0, fun _ => 0⟩ k _ _ rfl rfl)
  exact this

theorem hit_conf {zs : List Int} {s d : Int} {i m : Nat} (hok : checkF s zs d = (0, -1)) (hi : i < zs.length) (hm : m < 2 ^ zs.length) : (m &&& conf zs i == 0) = !hitTo zs m i zs.length := by
  rw [Bool.eq_iff_iff, beq_iff_eq, Bool.not_eq_true', ← Bool.not_eq_true, hit_iff]
  constructor
  · rintro h0 ⟨k, hk, h1, h2, h3⟩
    have := congrArg (fun x => x.testBit k) h0
    simp only [Nat.testBit_and, Nat.zero_testBit, h1, Bool.true_and] at this
    have h4 := (conf_conf hok i k hi hk).2 ⟨fun e => h2 e.symm, h3⟩
    exact absurd (h4.symm.trans this) (by decide)
  · intro h
    apply Nat.eq_of_testBit_eq
    intro k
    rw [Nat.testBit_and, Nat.zero_testBit]
    by_cases hk : k < zs.length
    · cases h1 : m.testBit k
      · rfl
      · cases h2 : (conf zs i).testBit k
        · rfl
        · obtain ⟨a1, a2⟩ := (conf_conf hok i k hi hk).1 h2
          exact absurd ⟨k, hk, h1, fun e => a1 e.symm, a2⟩ h
    · rw [Nat.testBit_lt_two_pow (Nat.lt_of_lt_of_le hm (Nat.pow_le_pow_right (by decide) (by omega)))]; rfl

theorem wrap_zero (x : Nat) (h : x < 18446744073709551616) : (IntKind.i64.wrap (x : Int) == 0) = (x == 0) := by
  rw [Bool.eq_iff_iff, beq_iff_eq, beq_iff_eq]
  simp [IntKind.wrap, IntKind.bits, IntKind.signed]
  omega
theorem andnot_zero (u : Int) (r : Nat) (h : r < 9223372036854775808) : (bits .andNot .i64 u (r : Int) == 0) = (wo (u64 u) r == 0) := by
  show (IntKind.i64.wrap (((BitVec.ofInt 64 _ &&& ~~~ BitVec.ofInt 64 _).toNat : Nat) : Int) == 0) = _
  rw [andnot_toNat, ofInt64, ofInt64, u64_nat r h]
  exact wrap_zero _ (wo_lt _ (u64_lt u))

/-- What was used lies within the route: just if it is a set of sections that are there, each of them the route's. -/
def subTo (U r : Nat) : Nat → Bool := allTo fun k => !U.testBit k || r.testBit k
theorem sub_same {u : Int} {r sn : Nat} (h1 : -9223372036854775808 ≤ u) (h2 : u < 9223372036854775808) (hr : r < 2 ^ sn) (hs : sn ≤ 12) : (wo (u64 u) r == 0) = ((decide (0 ≤ u) && decide (u < ((2 ^ sn : Nat) : Int))) && subTo u.toNat r sn) := by
  have hp : 2 ^ sn ≤ 2 ^ 12 := Nat.pow_le_pow_right (by decide) hs
  rw [Bool.eq_iff_iff, beq_iff_eq]
  simp only [Bool.and_eq_true, decide_eq_true_eq]
  constructor
  · intro h
    have hle : u64 u ≤ r := by
      rw [wo_zero] at h
      have e : u64 u &&& r = u64 u := by
        apply Nat.eq_of_testBit_eq
        intro j
        rw [Nat.testBit_and]
        cases hj : (u64 u).testBit j
        · rfl
        · rw [h j hj]; rfl
      rw [← e]; exact Nat.and_le_right
    have hu : 0 ≤ u := by unfold u64 at hle; omega
    have he : u64 u = u.toNat := by unfold u64; omega
    rw [he] at hle h
    refine ⟨⟨hu, by omega⟩, ?_⟩
    rw [wo_zero] at h
    unfold subTo
    have : ∀ n, allTo (fun k => !(u.toNat).testBit k || r.testBit k) n = true := by
      intro n
      induction n with
      | zero => rfl
      | succ n ih =>
        unfold allTo
        rw [ih]
        cases hb : (u.toNat).testBit n
        · rfl
        · rw [h n hb]; rfl
    exact this sn
  · rintro ⟨⟨hu, hl⟩, ha⟩
    have he : u64 u = u.toNat := by unfold u64; omega
    rw [he, wo_zero]
    intro k hk
    by_cases hks : k < sn
    · have := allTo_of ha hks
      rw [hk] at this
      simpa using this
    · rw [Nat.testBit_lt_two_pow (show u.toNat < 2 ^ k from Nat.lt_of_lt_of_le (by omega) (Nat.pow_le_pow_right (n := 2) (by decide) (show sn ≤ k by omega)))] at hk
      exact absurd hk (by decide)

/-- Of a route that is set: what the program asks, and what the reference asks, is one. -/
theorem rs_same {zs : List Int} {sn d i m : Nat} {G : GS} (hok : checkF (sn : Int) zs (d : Int) = (0, -1)) (hi : i < zs.length) (hz : G.set = (m : Int)) (hm : m < 2 ^ zs.length) (h1 : -9223372036854775808 ≤ G.used i) (h2 : G.used i < 9223372036854775808) :
    rsB (rt zs i) (conf zs i) d G i = ((((!hitTo zs m i zs.length) && ((decide (0 ≤ G.used i) && decide (G.used i < ((2 ^ sn : Nat) : Int))) && subTo (G.used i).toNat (rt zs i) sn)) && inB (G.idle i) 0 1000) && !(G.used i == 0 && decide ((d : Int) < G.idle i))) := by
  have hr := range_pos hok
  unfold rangeB at hr
  simp only [Bool.and_eq_true, inB_iff] at hr
  obtain ⟨_, hr2, hr3, _⟩ := rt_in hok hi
  rw [Int.toNat_natCast] at hr2
  have hp : 2 ^ zs.length ≤ 2 ^ 8 := Nat.pow_le_pow_right (by decide) (by omega)
  have hcl : conf zs i < 2 ^ zs.length := confTo_lt zs i zs.length
  unfold rsB
  rw [hz, and_nat m _ (by omega) (by omega), nat_beq, hit_conf hok hi hm, andnot_zero _ _ (by omega), sub_same h1 h2 hr2 (by omega)]
  generalize hitTo zs m i zs.length = a
  generalize ((decide (0 ≤ G.used i) && decide (G.used i < ((2 ^ sn : Nat) : Int))) && subTo (G.used i).toNat (rt zs i) sn) = b
  generalize G.idle i = t
  cases hu : (G.used i == 0)
  · rw [if_neg (by decide)]
    unfold inB
    cases a <;> cases b <;> simp
  · rw [if_pos rfl]
    unfold inB
    have e : (decide (0 ≤ t) && decide (t ≤ (d : Int))) = ((decide (0 ≤ t) && decide (t ≤ 1000)) && !decide ((d : Int) < t)) := by
      rw [Bool.eq_iff_iff]
      simp
      omega
    cases a <;> cases b <;> simp
    rw [Bool.eq_iff_iff]
    simp
    omega

end Go.Proofs.YtpkfgpagkgmpcaaDoor
