/- A strings.Builder that a call of ours made: the contracts of its writers, with what they may write. -/
import Derived.Test.YtaablbmgagiajabGreatDoorDkSp
import Derived.Test.YtaablbmgagiajabGreatDoorVtMem
import Derived.Lib.AppendStr
import Derived.Deep.AppendLies
namespace Go.Proofs.YtaablbmgagiajabGreatDoor
open Go.RowKit Go.Deep

/-- Where a list lies to which a text was appended: where it lay, or in a new block. -/
theorem append_text_lies {P : Program} (w : World) (base : Nat) (t u ty e : TypeId) (i : TypeInfo) (ht : P.underlying t = some (.slice e)) (hu : P.underlying u = some .string) (hi : P.info? e = some i) (hz : i.zero = some (.int .u8 0)) (hsize : i.size = 1) (hby : i.bytes = 1)
    (v : Value) (n : Nat) (xs : List Value) (hown : w.ownsRow base e 1 v n xs) (s : ByteArray) (hl : n + s.size ≤ 1000000000) {v' : Value} {w' : World} (hr : (Builtin.append_ #[t, u] ty #[v, .string s]).run P w = .ok v' w') (h0 : v = .slice none 0 0 → s.size = 0 → v' = .slice none 0 0) :
    v'.ownBlock = v.ownBlock ∨ v'.ownBlock = some w.heap.size := by
  have hxl : xs.length = n := by simpa using hown.1
  rcases hown.2 with ⟨rfl, rfl⟩ | ⟨g, cap, cur, rfl, hbg, hg, hnc, hcm, hcs, htake⟩
  · by_cases hm : s.size = 0
    · rw [h0 rfl hm]; exact .inl rfl
    · have h2 := run_append_nil_string (P := P) w t u ty e i (.int .u8 0) ht hu hi hz s (by omega) (by omega) (by rw [hby]; omega)
      rw [h2] at hr
      obtain ⟨rfl, _⟩ := Result.ok.inj hr
      exact .inr rfl
  · by_cases hroom : n + s.size ≤ cap
    · have hcs' : cur.size = cap := by simpa using hcs
      have h2 := Lib.run_append_room_string (P := P) w t u ty e i ht hu hi hsize g n cap cur hg s hroom (by omega)
      rw [h2] at hr
      obtain ⟨rfl, _⟩ := Result.ok.inj hr
      exact .inl rfl
    · have holds : ∀ j u, xs[j]? = some u → w.cell? ((⟨g, 0, none⟩ : Addr).add j) = some u := hown.cells (g := g) rfl
      have h2 := Lib.run_append_grow_string (P := P) w t u ty e i (.int .u8 0) ht hu hi hz ⟨g, 0, none⟩ n cap xs (by rw [hsize]; simpa using hxl) holds s (by omega) (by omega) (by rw [hby]; exact growslice_fits (by omega) (by omega))
      rw [h2] at hr
      obtain ⟨rfl, _⟩ := Result.ok.inj hr
      exact .inr rfl
theorem wpList_append_text {ops : Array Oper} {rest : List Oper} {o : Oper} {a : Act} {w : World} {Q : Exit → Act → World → Prop} (hgd : o.guard = none) (sl x : Operand) (ho : o.op = .call { callee := .builtin .append, args := #[sl, x], argTypes := #[37, 9] })
    (base : Nat) (v : Value) (n : Nat) (xs : List Value) (hs : a.eval sl = v) (hown : w.ownsRow base 5 1 v n xs) (s : ByteArray) (hx : a.eval x = .string s) (hl : n + s.size ≤ 1000000000) (hbase : base ≤ w.heap.size)
    (h : ∀ v' w', w'.ownsRow base 5 1 v' (n + s.size) (xs ++ Lib.strCells s) → w.grownBy w' v.ownBlock → (v'.ownBlock = v.ownBlock ∨ v'.ownBlock = some w.heap.size) → wpList Tryz.prog ops Q rest (a.put o.dst v') w') : wpList Tryz.prog ops Q (o :: rest) a w := by
  obtain ⟨i0, hi, hz0, hz1, hz2⟩ := info_parts Tryz.Builder_Extra_156.infoByte
  refine wpList_plain hgd fun K hK => ?_
  obtain ⟨v', w', hr, h2, h3, h4⟩ := Lib.run_append_own_string (P := Tryz.prog) w base 37 9 o.type 5 i0 Tryz.underlying37 Tryz.underlying9 hi hz0 hz1 hz2 v n xs hown s (by unfold maxLen; omega) (by omega) hbase
  have h5 := append_text_lies w base 37 9 o.type 5 i0 Tryz.underlying37 Tryz.underlying9 hi hz0 hz1 hz2 v n xs hown s hl hr (fun e1 e2 => h4.2 ⟨e1, e2⟩)
  unfold Oper.wp execOp
  simp only [ho, resolve, invoke, builtin, Sem.run_bind, Sem.run_pure, Result.andThen_ok, List.map_toArray, List.map_cons, List.map_nil, hs, hx, hr]
  exact hK _ _ (h v' w' h2 h3 h5)

/-- A builder that holds these bytes; its list is v. -/
structure BdIs (w : World) (N b : Nat) (v : Value) (l : List UInt8) : Prop where
  ge : N ≤ b
  blk : ∃ p, (p = .pointer none ∨ p = .pointer (some ⟨b, 0, none⟩)) ∧ w.heap[b]? = some (.cells #[p, v] 104 (0, 0))
  row : w.ownsRow N 5 1 v l.length (Lib.byteCells l)
  ne : v.ownBlock ≠ some b
/-- What a writer may write. -/
def BdW (b : Nat) (v : Value) (k : Nat) : Prop := k = b ∨ v.ownBlock = some k
/-- What is left behind a writer. -/
def BdGo (w w' : World) (N b : Nat) (v : Value) (l : List UInt8) : Prop := ∃ v', BdIs w' N b v' l ∧ Mod w w' (BdW b v) ∧ Moved w v v'
theorem BdIs.lt {w : World} {N b : Nat} {v : Value} {l : List UInt8} (h : BdIs w N b v l) : b < w.heap.size := by
  obtain ⟨p, _, hb⟩ := h.blk
  exact blk_lt hb
theorem BdIs.rowLt {w : World} {N b : Nat} {v : Value} {l : List UInt8} (h : BdIs w N b v l) {g : Nat} (hg : v.ownBlock = some g) : g < w.heap.size := (h.row.lt g hg).2
/-- Others write. -/
theorem BdIs.mod {w w' : World} {N b : Nat} {v : Value} {l : List UInt8} (h : BdIs w N b v l) {T : Nat → Prop} (hm : Mod w w' T) (hT : ∀ k, BdW b v k → ¬ T k) : BdIs w' N b v l := by
  obtain ⟨p, hp, hb⟩ := h.blk
  refine ⟨h.ge, ⟨p, hp, (hm.block b h.lt (hT b (.inl rfl))).trans hb⟩, ⟨h.row.1, ?_⟩, h.ne⟩
  rcases h.row.2 with h2 | ⟨g, cap, cur, e, h3, hc, h5⟩
  · exact .inl h2
  · exact .inr ⟨g, cap, cur, e, h3, (hm.block g (blk_lt hc) (hT g (.inr (by rw [e]; rfl)))).trans hc, h5⟩
theorem BdIs.below {w w' : World} {N b : Nat} {v : Value} {l : List UInt8} (h : BdIs w N b v l) (hB : Below w.heap.size w w') : BdIs w' N b v l := h.mod (Mod.ofBelow hB (fun _ => False)) (fun _ _ x => x)
theorem BdIs.new (w : World) : BdIs (w.alloc (.cells #[.pointer none, .slice none 0 0] 104)) w.heap.size w.heap.size (.slice none 0 0) [] :=
  ⟨Nat.le_refl _, ⟨_, .inl rfl, blk_new _ _⟩, World.ownsRow_nil _ _ _ _, by simp [Value.ownBlock]⟩

theorem copyCheck_any (N b : Nat) (v : Value) (l : List UInt8) (w : World) (h : BdIs w N b v l) :
    Calls Tryz.prog 97 #[.pointer (some ⟨b, 0, none⟩)] w fun e w' => e = .returned (.tuple #[]) ∧ w'.heap[b]? = some (.cells #[.pointer (some ⟨b, 0, none⟩), v] 104 (0, 0)) ∧ BdIs w' N b v l ∧ Mod w w' (BdW b v) := by
  obtain ⟨p, hp, hb⟩ := h.blk
  rcases hp with rfl | rfl
  · refine (Any.Builder_copyCheck_fresh (P := Tryz.prog) (ρ := Tryz.lays156_ren) { Tryz.lays156 with } Tryz.Builder_Extra_156.toX72 b w ((blk_cell hb 0).trans rfl) ?_ (blk_free hb 0)).mono ?_
    · simp [World.shape?, hb]
      rfl
    · rintro e w' ⟨he, rfl⟩
      have hb' := blk_set hb 0 (.pointer (some ⟨b, 0, none⟩))
      have hm : Mod w (w.setCell ⟨b, 0, none⟩ (.pointer (some ⟨b, 0, none⟩))) (· = b) := (Mod.refl _ _).set _ _ (fun _ => rfl)
      refine ⟨he, hb', ⟨h.ge, ⟨_, .inr rfl, hb'⟩, ⟨h.row.1, ?_⟩, h.ne⟩, hm.mono fun k _ e => .inl e⟩
      rcases h.row.2 with h2 | ⟨g, cap, cur, e, h3, hc, h5⟩
      · exact .inl h2
      · refine .inr ⟨g, cap, cur, e, h3, (hm.block g (blk_lt hc) fun x => h.ne (by rw [e, ← x]; rfl)).trans hc, h5⟩
  · refine (Any.Builder_copyCheck_used (P := Tryz.prog) (ρ := Tryz.lays156_ren) { Tryz.lays156 with } Tryz.Builder_Extra_156.toX72 b w ((blk_cell hb 0).trans rfl)).mono ?_
    rintro e w' ⟨he, rfl⟩
    exact ⟨he, hb, h, Mod.refl _ _⟩

/-- What an append and a store leave. -/
theorem BdIs.put {w w1 w2 : World} {N b : Nat} {v v' : Value} {l l' : List UInt8} (h : BdIs w1 N b v l) (hm : Mod w w1 (BdW b v)) (hb2 : w2.heap[b]? = some (.cells #[.pointer (some ⟨b, 0, none⟩), v] 104 (0, 0))) (hg : w1.grownBy w2 v.ownBlock) (hat : v'.ownBlock = v.ownBlock ∨ v'.ownBlock = some w1.heap.size) (hown : w2.ownsRow N 5 1 v' l'.length (Lib.byteCells l')) :
    BdGo w (w2.setCell ⟨b, 1, none⟩ v') N b v l' := by
  have hne : v'.ownBlock ≠ some b := by
    rcases hat with e | e
    · rw [e]; exact h.ne
    · rw [e]; intro x; have := h.lt; have := Option.some.inj x; omega
  have hm2 : Mod w w2 (BdW b v) := hm.grown hg fun k _ e => .inr e
  have hm3 : Mod w2 (w2.setCell ⟨b, 1, none⟩ v') (· = b) := (Mod.refl _ _).set _ _ (fun _ => rfl)
  refine ⟨v', ⟨h.ge, ⟨_, .inr rfl, blk_set hb2 1 v'⟩, ⟨hown.1, ?_⟩, hne⟩, hm2.then hm3 fun _ _ e => .inl e, fun g hg' => ?_⟩
  · rcases hown.2 with h2 | ⟨g, cap, cur, e, h3, hc, h5⟩
    · exact .inl h2
    · exact .inr ⟨g, cap, cur, e, h3, (hm3.block g (blk_lt hc) fun x => hne (by rw [e, ← x]; rfl)).trans hc, h5⟩
  · rcases hat with e | e
    · rw [e] at hg'; exact .inl hg'
    · rw [e] at hg'
      have := Option.some.inj hg'
      have := hm.size
      exact .inr (by omega)

set_option maxHeartbeats 1000000 in
theorem writeString_any (N b : Nat) (v : Value) (l s : List UInt8) (w : World) (h : BdIs w N b v l) (hN : N ≤ w.heap.size) (hl : l.length + s.length ≤ 100000000) :
    Calls Tryz.prog 60 #[.pointer (some ⟨b, 0, none⟩), .string (txt s)] w fun e w' => (∃ x, e = .returned x) ∧ BdGo w w' N b v (l ++ s) := by
  obtain ⟨i0, hi, hz0, hz1, hz2⟩ := info_parts Tryz.Builder_Extra_156.infoByte
  have HC := hide (copyCheck_any N b v l w h)
  clear h
  go_enter Tryz.func60, Tryz.ntmps60
  go_wp2_with (go_at_call 97; refine HC.out.mono ?_; rintro e w1 ⟨rfl, hb1, hI1, hm1⟩; refine Hid.out ?_)
  refine hide ?_
  have c0 : w1.cell? ⟨b, 0, none⟩ = some (.pointer (some ⟨b, 0, none⟩)) := (blk_cell hb1 0).trans rfl
  have c1 : w1.cell? ⟨b, 1, none⟩ = some v := (blk_cell hb1 1).trans rfl
  have HB1 := hide hb1
  have HI1 := hide hI1
  have HM1 := hide hm1
  have hs1 := hm1.size
  clear hb1 hI1 hm1 HC
  go_wp2_with (at_builtin; refine wpList_append_text rfl _ _ rfl N v l.length _ rfl HI1.out.row (txt s) rfl ?c4 ?c5 ?_)
  case c4 => rw [txt_size]; omega
  case c5 => omega
  intro v' w2 hown' hgrow hat
  have hlt : b < w1.heap.size := HI1.out.lt
  have hb2 : w2.heap[b]? = some (.cells #[.pointer (some ⟨b, 0, none⟩), v] 104 (0, 0)) := (hgrow.block b hlt (fun e => HI1.out.ne e.symm)).trans HB1.out
  have d1 : w2.cell? ⟨b, 1, none⟩ = some v := (blk_cell hb2 1).trans rfl
  have f1 : w2.frozen? ⟨b, 1, none⟩ = false := blk_free hb2 1
  have HEND : Hid (BdGo w (w2.setCell ⟨b, 1, none⟩ v') N b v (l ++ s)) := hide (BdIs.put HI1.out HM1.out hb2 hgrow hat (by
    rw [List.length_append]
    have e : Lib.byteCells (l ++ s) = Lib.byteCells l ++ Lib.strCells (txt s) := by simp [Lib.byteCells, Lib.strCells]
    rw [e]
    exact hown'))
  obtain ⟨ao, n', cap, rfl⟩ : ∃ ao n' cap, v' = .slice ao n' cap := by
    rcases hown'.2 with ⟨hv, _⟩ | ⟨g, cap, cur, hv, _⟩
    · exact ⟨_, _, _, hv⟩
    · exact ⟨_, _, _, hv⟩
  clear hown' hgrow hb2 hat
  go_wp2
  go_ret2
  exact ⟨⟨_, rfl⟩, HEND.out⟩

set_option maxHeartbeats 1000000 in
theorem writeByte_any (N b : Nat) (v : Value) (l : List UInt8) (c : UInt8) (w : World) (h : BdIs w N b v l) (hN : N ≤ w.heap.size) (hl : l.length ≤ 100000000) :
    Calls Tryz.prog 62 #[.pointer (some ⟨b, 0, none⟩), .int .u8 (c.toNat : Int)] w fun e w' => (∃ x, e = .returned x) ∧ BdGo w w' N b v (l ++ [c]) := by
  obtain ⟨i0, hi, hz0, hz1, hz2⟩ := info_parts Tryz.Builder_Extra_156.infoByte
  have HC := hide (copyCheck_any N b v l w h)
  clear h
  go_enter Tryz.func62, Tryz.ntmps62
  go_wp2_with (go_at_call 97; refine HC.out.mono ?_; rintro e w1 ⟨rfl, hb1, hI1, hm1⟩; refine Hid.out ?_)
  refine hide ?_
  have c0 : w1.cell? ⟨b, 0, none⟩ = some (.pointer (some ⟨b, 0, none⟩)) := (blk_cell hb1 0).trans rfl
  have c1 : w1.cell? ⟨b, 1, none⟩ = some v := (blk_cell hb1 1).trans rfl
  have HB1 := hide hb1
  have HI1 := hide hI1
  have HM1 := hide hm1
  have hs1 := hm1.size
  clear hb1 hI1 hm1 HC
  go_wp2_with (at_builtin; refine wpList_append_lies _ rfl _ _ 37 rfl N 5 i0 (.int .u8 0) 1 1 Tryz.underlying37 hi hz0 hz1 hz2 rfl (by decide) v l.length _ rfl (HI1.out.row.alloc _) ⟨w1.heap.size, 0, none⟩ 1 1 [.int .u8 (c.toNat : Int)] rfl rfl ?c1 ?c2 (by decide) ?c3 ?c4 ?c5 _ rfl ?_)
  case c1 =>
    intro j u hj
    match j, hj with
    | 0, hj => simp at hj; subst hj; simp [Addr.add]
  case c2 => intro u hu; simp at hu; subst hu; rfl
  case c3 => unfold maxLen; omega
  case c4 => omega
  case c5 => simp; omega
  intro g cap w2 hown' hgrow hat _
  have hlt : b < w1.heap.size := HI1.out.lt
  obtain ⟨W, hW⟩ : ∃ W, Hid (w1.alloc (.cells #[.int .u8 (c.toNat : Int)] 5) = W) := ⟨_, hide rfl⟩
  rw [hW.out] at hgrow
  have hWs : W.heap.size = w1.heap.size + 1 := by rw [← hW.out]; simp
  rw [← hWs] at hat
  have hBW : Below w1.heap.size w1 W := by rw [← hW.out]; exact (Below.refl _ _).alloc (Nat.le_refl _) _
  have hbW : W.heap[b]? = some (.cells #[.pointer (some ⟨b, 0, none⟩), v] 104 (0, 0)) := (hBW.block b hlt).trans HB1.out
  have hb2 : w2.heap[b]? = some (.cells #[.pointer (some ⟨b, 0, none⟩), v] 104 (0, 0)) := (hgrow.block b (blk_lt hbW) (fun e => HI1.out.ne e.symm)).trans hbW
  have d1 : w2.cell? ⟨b, 1, none⟩ = some v := (blk_cell hb2 1).trans rfl
  have f1 : w2.frozen? ⟨b, 1, none⟩ = false := blk_free hb2 1
  have HEND : Hid (BdGo w (w2.setCell ⟨b, 1, none⟩ (.slice (some ⟨g, 0, none⟩) (l.length + 1) cap)) N b v (l ++ [c])) := hide (BdIs.put (HI1.out.below hBW) (HM1.out.below hBW) hb2 hgrow (by
    rcases hat with e | e
    · exact .inl e.symm
    · exact .inr (by rw [← e]; rfl)) (by
    have e : Lib.byteCells (l ++ [c]) = Lib.byteCells l ++ [.int .u8 (c.toNat : Int)] := by simp [Lib.byteCells]
    rw [e, List.length_append]
    exact hown'))
  clear hown' hgrow hb2 hat hW hBW hbW hWs
  go_wp2
  go_ret
  exact ⟨⟨_, rfl⟩, HEND.out⟩

theorem string_any (N b : Nat) (v : Value) (l : List UInt8) (w : World) (h : BdIs w N b v l) (hN : N ≤ w.heap.size) :
    Calls Tryz.prog 63 #[.pointer (some ⟨b, 0, none⟩)] w fun e w' => e = .returned (.string (txt l)) ∧ Below N w w' ∧ ∀ (k : Nat) (ds : Option (List Deferred)), w.heap[k]? = some (Obj.deferred ds) → w'.heap[k]? = some (Obj.deferred ds) := by
  have hF : Lib.IsBuilderF 104 5 N b (Lib.byteCells l) w := by
    obtain ⟨p, hp, hb⟩ := h.blk
    have hat : Lib.BuilderAtF 104 5 N b p (Lib.byteCells l) w := ⟨h.ge, v, hb, World.ownsRowF_of (by rw [Lib.byteCells_length]; exact h.row), h.ne⟩
    rcases hp with rfl | rfl
    · exact .inl hat
    · exact .inr hat
  refine (Tryz.Builder_String_any_k N b l w hF hN).mono ?_
  rintro e w' ⟨he, _, hB, hO⟩
  refine ⟨he, hB, fun k ds hk => ?_⟩
  obtain ⟨p, _, hb⟩ := h.blk
  exact hO k _ hk (fun e => by cases e; rw [hb] at hk; cases hk) (fun _ _ e => by cases e)
end Go.Proofs.YtaablbmgagiajabGreatDoor
