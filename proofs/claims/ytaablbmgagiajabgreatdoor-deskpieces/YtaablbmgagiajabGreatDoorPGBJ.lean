import Derived.MapFrom
import Derived.Test.YtaablbmgagiajabGreatDoorPGBI
namespace Go.Proofs.YtaablbmgagiajabGreatDoor
open Go.RowKit Go.Deep
def MpIs (w : World) (m : Nat) (es : List (List UInt8 × Value)) : Prop := ∃ A : Array MapEntry, w.heap[m]? = some (.map A es.length) ∧ A.toList.map (fun e => (e.key, e.val)) = es.map fun p => (Value.string (txt p.1), p.2)
theorem MpIs.lt {w : World} {m : Nat} {es : List (List UInt8 × Value)} (h : MpIs w m es) : m < w.heap.size := by
  obtain ⟨A, h1, _⟩ := h
  exact (Array.getElem?_eq_some_iff.1 h1).1
theorem MpIs.same {w w' : World} {m : Nat} {es : List (List UInt8 × Value)} (h : MpIs w m es) (hb : w'.heap[m]? = w.heap[m]?) : MpIs w' m es := by
  obtain ⟨A, h1, h2⟩ := h
  exact ⟨A, hb.trans h1, h2⟩
theorem MpIs.notCells {w : World} {m : Nat} {es : List (List UInt8 × Value)} (h : MpIs w m es) {cs : Array Value} {t : TypeId} {f : Nat × Nat} (hc : w.heap[m]? = some (.cells cs t f)) : False := by
  obtain ⟨A, h1, _⟩ := h
  rw [h1] at hc
  cases hc
theorem txt_beq (a b : List UInt8) : (txt a == txt b) = (a == b) := by
  show (a.toArray == b.toArray) = (a == b)
  rw [Bool.eq_iff_iff, beq_iff_eq, beq_iff_eq]
  exact ⟨fun h => by simpa using h, fun h => by rw [h]⟩
theorem find_go (k : List UInt8) : ∀ (es : List (List UInt8 × Value)) (L : List MapEntry) (i : Nat), L.map (fun e => (e.key, e.val)) = es.map (fun p => (Value.string (txt p.1), p.2)) → ∃ r, Instr.findNow .string (.string (txt k)) L i = some r ∧ r.map (·.2) = es.lookup k
  | [], [], i, _ => ⟨none, rfl, rfl⟩
  | [], _ :: _, _, h => by simp at h
  | _ :: _, [], _, h => by simp at h
  | (x, v) :: es, e :: L, i, h => by
    simp only [List.map_cons, List.cons.injEq, Prod.mk.injEq] at h
    obtain ⟨⟨hk, hv⟩, ht⟩ := h
    unfold Instr.findNow
    rw [hk]
    show ∃ r, (match some (txt k == txt x) with | some true => some (some (i, e.val)) | some false => Instr.findNow .string (.string (txt k)) L (i + 1) | none => none) = some r ∧ _
    rw [txt_beq]
    cases hb : (k == x) with
    | true => exact ⟨_, rfl, by simp [List.lookup, hb, hv]⟩
    | false =>
      obtain ⟨r, h1, h2⟩ := find_go k es L (i + 1) ht
      exact ⟨r, h1, by simp [List.lookup, hb, h2]⟩
theorem checkS (b : Bool) (s : ByteArray) (w : World) : (Instr.checkKey b 10000 9 (.string s)).run Tryz.prog w = .ok () w :=
  MapKept.run_checkKey (k := .string s) Tryz.underlying9 trivial b 9999
theorem MpIs.look {w : World} {m : Nat} {es : List (List UInt8 × Value)} (h : MpIs w m es) (k : List UInt8) :
    (Instr.lookup 165 (.map (some m)) (.string (txt k)) true).run Tryz.prog w = .ok (.tuple #[(es.lookup k).getD (.agg #[.int .i64 0, .int .i64 0, .nilFunc]), .bool (es.lookup k).isSome]) w := by
  obtain ⟨A, h1, h2⟩ := h
  obtain ⟨r, h3, h4⟩ := find_go k es A.toList 0 h2
  have hz : (zeroValue 178).run Tryz.prog w = .ok (.agg #[.int .i64 0, .int .i64 0, .nilFunc]) w := by kernel_rfl
  have hf : (Instr.findKey 9 (.string (txt k)) A.toList).run Tryz.prog w = .ok r w := by
    simp [Instr.findKey, run_underlying Tryz.underlying9, Result.andThen, h3]
  rw [← h4]
  cases r with
  | none => simp [Instr.lookup, run_underlying Tryz.underlying165, MapKept.run_getObj_map h1, checkS, hf, hz, Result.andThen]
  | some r => simp [Instr.lookup, run_underlying Tryz.underlying165, MapKept.run_getObj_map h1, checkS, hf, Result.andThen]
theorem MpIs.put {w : World} {m : Nat} {es : List (List UInt8 × Value)} (h : MpIs w m es) (k : List UInt8) (v : Value) (hk : es.lookup k = none) :
    ∃ w', (Instr.mapUpdate 165 (.map (some m)) (.string (txt k)) v).run Tryz.prog w = .ok () w' ∧ MpIs w' m (es ++ [(k, v)]) ∧ w.grownBy w' (some m) := by
  have hlt := h.lt
  obtain ⟨A, h1, h2⟩ := h
  obtain ⟨r, h3, h4⟩ := find_go k es A.toList 0 h2
  rw [hk] at h4
  obtain rfl : r = none := by cases r with
    | none => rfl
    | some r => cases h4
  have hf : (Instr.findKey 9 (.string (txt k)) A.toList).run Tryz.prog w = .ok none w := by
    simp [Instr.findKey, run_underlying Tryz.underlying9, Result.andThen, h3]
  refine ⟨_, by simp [Instr.mapUpdate, run_underlying Tryz.underlying165, MapKept.run_getObj_map h1, checkS, hf, MapKept.run_setObj_map _ h1, Result.andThen]; rfl, ⟨A.push { key := .string (txt k), val := v, born := es.length }, ?_, ?_⟩, ?_⟩
  · show (w.heap.setIfInBounds m _)[m]? = _
    rw [Array.getElem?_setIfInBounds_self_of_lt hlt]
    simp
  · simp [h2]
  · exact ⟨rfl, rfl, rfl, by simp, fun j _ hj => by
      show (w.heap.setIfInBounds m _)[j]? = _
      rw [Array.getElem?_setIfInBounds_ne (fun e => hj (by rw [e]))]⟩
def ordV (d : Nat) (least most : Int) (f : Nat) : Value := .agg #[.int .i64 least, .int .i64 most, .func (.func f) #[.pointer (some ⟨d, 0, none⟩)] #[]]
def ordTab (d : Nat) : List (List UInt8 × Value) := [
  ([97, 115, 107], ordV d 1 1 143),
  ([98, 101, 103, 105, 110], ordV d 4 9223372036854775807 93),
  ([99, 97, 108, 109], ordV d 1 1 144),
  ([99, 111, 110, 102, 108, 105, 99, 116, 115], ordV d 0 0 145),
  ([99, 114, 97, 115, 104], ordV d 1 1 146),
  ([100, 101, 108, 105, 118, 101, 114], ordV d 1 1 147),
  ([104, 101, 108, 112], ordV d 0 0 148),
  ([108, 97, 116, 99, 104], ordV d 0 0 149),
  ([108, 111, 115, 101], ordV d 1 1 150),
  ([109, 97, 110, 121], ordV d 0 0 151),
  ([109, 111, 115, 116], ordV d 0 0 152),
  ([114, 101, 112, 108, 105, 99, 97], ordV d 1 1 153),
  ([115, 101, 101], ordV d 3 3 154),
  ([115, 104, 111, 119], ordV d 0 0 155),
  ([116, 105, 99, 107], ordV d 1 1 156),
  ([116, 114, 97, 99, 101], ordV d 0 0 157),
  ([116, 119, 105, 99, 101], ordV d 1 1 158)]
theorem below_grown {w w1 : World} {m : Nat} (h : w.grownBy w1 (some m)) (hm : m ≤ w.heap.size) : Below m w w1 :=
  ⟨h.os, h.tape, h.output, h.size, fun i hi => h.block i (by omega) (fun e => by cases e; omega)⟩
theorem MpIs.new (w : World) : MpIs (w.alloc (.map #[] 0)) w.heap.size [] := ⟨#[], World.alloc_heap_new w _, rfl⟩
set_option maxHeartbeats 4000000 in
set_option maxRecDepth 100000 in
theorem allOrders_any (d : Nat) (w : World) :
    Calls Tryz.prog 92 #[.pointer (some ⟨d, 0, none⟩)] w fun e w' => ∃ m, e = .returned (.map (some m)) ∧ w.heap.size ≤ m ∧ MpIs w' m (ordTab d) ∧ Below w.heap.size w w' := by
  have hmf : ∀ (fn : Fn) (first cap : Array Value) (w : World), (Instr.makeFunc fn first cap).run Tryz.prog w = .ok (.func fn first cap) w := fun _ _ _ _ => rfl
  have hmk : (Instr.makeMap 165 none).run Tryz.prog w = .ok (.map (some w.heap.size)) (w.alloc (.map #[] 0)) := by kernel_rfl
  have m0 := MpIs.new w
  have b0 : Below w.heap.size w (w.alloc (.map #[] 0)) := (Below.refl _ _).alloc (Nat.le_refl _) _
  have hlt0 : w.heap.size < (w.alloc (.map #[] 0)).heap.size := by simp
  obtain ⟨w1, r1, m1, g1⟩ := m0.put [97, 115, 107] (ordV d 1 1 143) rfl
  have r1' : (Instr.mapUpdate 165 (.map (some w.heap.size)) (.string ⟨#[97, 115, 107]⟩) (.agg #[.int .i64 1, .int .i64 1, .func (.func 143) #[.pointer (some ⟨d, 0, none⟩)] #[]])).run Tryz.prog (w.alloc (.map #[] 0)) = .ok () w1 := r1
  have b1 := b0.trans (below_grown g1 b0.size)
  clear r1 g1 m0 b0
  obtain ⟨w2, r2, m2, g2⟩ := m1.put [98, 101, 103, 105, 110] (ordV d 4 9223372036854775807 93) rfl
  have r2' : (Instr.mapUpdate 165 (.map (some w.heap.size)) (.string ⟨#[98, 101, 103, 105, 110]⟩) (.agg #[.int .i64 4, .int .i64 9223372036854775807, .func (.func 93) #[.pointer (some ⟨d, 0, none⟩)] #[]])).run Tryz.prog w1 = .ok () w2 := r2
  have b2 := b1.trans (below_grown g2 b1.size)
  clear r2 g2 m1 b1
  obtain ⟨w3, r3, m3, g3⟩ := m2.put [99, 97, 108, 109] (ordV d 1 1 144) rfl
  have r3' : (Instr.mapUpdate 165 (.map (some w.heap.size)) (.string ⟨#[99, 97, 108, 109]⟩) (.agg #[.int .i64 1, .int .i64 1, .func (.func 144) #[.pointer (some ⟨d, 0, none⟩)] #[]])).run Tryz.prog w2 = .ok () w3 := r3
  have b3 := b2.trans (below_grown g3 b2.size)
  clear r3 g3 m2 b2
  obtain ⟨w4, r4, m4, g4⟩ := m3.put [99, 111, 110, 102, 108, 105, 99, 116, 115] (ordV d 0 0 145) rfl
  have r4' : (Instr.mapUpdate 165 (.map (some w.heap.size)) (.string ⟨#[99, 111, 110, 102, 108, 105, 99, 116, 115]⟩) (.agg #[.int .i64 0, .int .i64 0, .func (.func 145) #[.pointer (some ⟨d, 0, none⟩)] #[]])).run Tryz.prog w3 = .ok () w4 := r4
  have b4 := b3.trans (below_grown g4 b3.size)
  clear r4 g4 m3 b3
  obtain ⟨w5, r5, m5, g5⟩ := m4.put [99, 114, 97, 115, 104] (ordV d 1 1 146) rfl
  have r5' : (Instr.mapUpdate 165 (.map (some w.heap.size)) (.string ⟨#[99, 114, 97, 115, 104]⟩) (.agg #[.int .i64 1, .int .i64 1, .func (.func 146) #[.pointer (some ⟨d, 0, none⟩)] #[]])).run Tryz.prog w4 = .ok () w5 := r5
  have b5 := b4.trans (below_grown g5 b4.size)
  clear r5 g5 m4 b4
  obtain ⟨w6, r6, m6, g6⟩ := m5.put [100, 101, 108, 105, 118, 101, 114] (ordV d 1 1 147) rfl
  have r6' : (Instr.mapUpdate 165 (.map (some w.heap.size)) (.string ⟨#[100, 101, 108, 105, 118, 101, 114]⟩) (.agg #[.int .i64 1, .int .i64 1, .func (.func 147) #[.pointer (some ⟨d, 0, none⟩)] #[]])).run Tryz.prog w5 = .ok () w6 := r6
  have b6 := b5.trans (below_grown g6 b5.size)
  clear r6 g6 m5 b5
  obtain ⟨w7, r7, m7, g7⟩ := m6.put [104, 101, 108, 112] (ordV d 0 0 148) rfl
  have r7' : (Instr.mapUpdate 165 (.map (some w.heap.size)) (.string ⟨#[104, 101, 108, 112]⟩) (.agg #[.int .i64 0, .int .i64 0, .func (.func 148) #[.pointer (some ⟨d, 0, none⟩)] #[]])).run Tryz.prog w6 = .ok () w7 := r7
  have b7 := b6.trans (below_grown g7 b6.size)
  clear r7 g7 m6 b6
  obtain ⟨w8, r8, m8, g8⟩ := m7.put [108, 97, 116, 99, 104] (ordV d 0 0 149) rfl
  have r8' : (Instr.mapUpdate 165 (.map (some w.heap.size)) (.string ⟨#[108, 97, 116, 99, 104]⟩) (.agg #[.int .i64 0, .int .i64 0, .func (.func 149) #[.pointer (some ⟨d, 0, none⟩)] #[]])).run Tryz.prog w7 = .ok () w8 := r8
  have b8 := b7.trans (below_grown g8 b7.size)
  clear r8 g8 m7 b7
  obtain ⟨w9, r9, m9, g9⟩ := m8.put [108, 111, 115, 101] (ordV d 1 1 150) rfl
  have r9' : (Instr.mapUpdate 165 (.map (some w.heap.size)) (.string ⟨#[108, 111, 115, 101]⟩) (.agg #[.int .i64 1, .int .i64 1, .func (.func 150) #[.pointer (some ⟨d, 0, none⟩)] #[]])).run Tryz.prog w8 = .ok () w9 := r9
  have b9 := b8.trans (below_grown g9 b8.size)
  clear r9 g9 m8 b8
  obtain ⟨w10, r10, m10, g10⟩ := m9.put [109, 97, 110, 121] (ordV d 0 0 151) rfl
  have r10' : (Instr.mapUpdate 165 (.map (some w.heap.size)) (.string ⟨#[109, 97, 110, 121]⟩) (.agg #[.int .i64 0, .int .i64 0, .func (.func 151) #[.pointer (some ⟨d, 0, none⟩)] #[]])).run Tryz.prog w9 = .ok () w10 := r10
  have b10 := b9.trans (below_grown g10 b9.size)
  clear r10 g10 m9 b9
  obtain ⟨w11, r11, m11, g11⟩ := m10.put [109, 111, 115, 116] (ordV d 0 0 152) rfl
  have r11' : (Instr.mapUpdate 165 (.map (some w.heap.size)) (.string ⟨#[109, 111, 115, 116]⟩) (.agg #[.int .i64 0, .int .i64 0, .func (.func 152) #[.pointer (some ⟨d, 0, none⟩)] #[]])).run Tryz.prog w10 = .ok () w11 := r11
  have b11 := b10.trans (below_grown g11 b10.size)
  clear r11 g11 m10 b10
  obtain ⟨w12, r12, m12, g12⟩ := m11.put [114, 101, 112, 108, 105, 99, 97] (ordV d 1 1 153) rfl
  have r12' : (Instr.mapUpdate 165 (.map (some w.heap.size)) (.string ⟨#[114, 101, 112, 108, 105, 99, 97]⟩) (.agg #[.int .i64 1, .int .i64 1, .func (.func 153) #[.pointer (some ⟨d, 0, none⟩)] #[]])).run Tryz.prog w11 = .ok () w12 := r12
  have b12 := b11.trans (below_grown g12 b11.size)
  clear r12 g12 m11 b11
  obtain ⟨w13, r13, m13, g13⟩ := m12.put [115, 101, 101] (ordV d 3 3 154) rfl
  have r13' : (Instr.mapUpdate 165 (.map (some w.heap.size)) (.string ⟨#[115, 101, 101]⟩) (.agg #[.int .i64 3, .int .i64 3, .func (.func 154) #[.pointer (some ⟨d, 0, none⟩)] #[]])).run Tryz.prog w12 = .ok () w13 := r13
  have b13 := b12.trans (below_grown g13 b12.size)
  clear r13 g13 m12 b12
  obtain ⟨w14, r14, m14, g14⟩ := m13.put [115, 104, 111, 119] (ordV d 0 0 155) rfl
  have r14' : (Instr.mapUpdate 165 (.map (some w.heap.size)) (.string ⟨#[115, 104, 111, 119]⟩) (.agg #[.int .i64 0, .int .i64 0, .func (.func 155) #[.pointer (some ⟨d, 0, none⟩)] #[]])).run Tryz.prog w13 = .ok () w14 := r14
  have b14 := b13.trans (below_grown g14 b13.size)
  clear r14 g14 m13 b13
  obtain ⟨w15, r15, m15, g15⟩ := m14.put [116, 105, 99, 107] (ordV d 1 1 156) rfl
  have r15' : (Instr.mapUpdate 165 (.map (some w.heap.size)) (.string ⟨#[116, 105, 99, 107]⟩) (.agg #[.int .i64 1, .int .i64 1, .func (.func 156) #[.pointer (some ⟨d, 0, none⟩)] #[]])).run Tryz.prog w14 = .ok () w15 := r15
  have b15 := b14.trans (below_grown g15 b14.size)
  clear r15 g15 m14 b14
  obtain ⟨w16, r16, m16, g16⟩ := m15.put [116, 114, 97, 99, 101] (ordV d 0 0 157) rfl
  have r16' : (Instr.mapUpdate 165 (.map (some w.heap.size)) (.string ⟨#[116, 114, 97, 99, 101]⟩) (.agg #[.int .i64 0, .int .i64 0, .func (.func 157) #[.pointer (some ⟨d, 0, none⟩)] #[]])).run Tryz.prog w15 = .ok () w16 := r16
  have b16 := b15.trans (below_grown g16 b15.size)
  clear r16 g16 m15 b15
  obtain ⟨w17, r17, m17, g17⟩ := m16.put [116, 119, 105, 99, 101] (ordV d 1 1 158) rfl
  have r17' : (Instr.mapUpdate 165 (.map (some w.heap.size)) (.string ⟨#[116, 119, 105, 99, 101]⟩) (.agg #[.int .i64 1, .int .i64 1, .func (.func 158) #[.pointer (some ⟨d, 0, none⟩)] #[]])).run Tryz.prog w16 = .ok () w17 := r17
  have b17 := b16.trans (below_grown g17 b16.size)
  clear r17 g17 m16 b16
  have HM := hide m17
  have HB := hide b17
  clear m17 b17 hlt0
  go_enter Tryz.func92, Tryz.ntmps92
  go_wp2
  go_ret
  exact ⟨_, rfl, Nat.le_refl _, HM.out, HB.out⟩
end Go.Proofs.YtaablbmgagiajabGreatDoor
