import Derived.Deep.RegionHeld3
import Derived.Below
import Derived.RowKit
import Derived.KernelRfl
namespace Go
theorem RowKit.Hid.o {p : Prop} (h : RowKit.Hid p) : p := h
theorem Shut.o {p : Prop} (h : Shut p) : p := h
end Go
namespace Go.Proofs.YtaablbmgagiajabGreatDoor
open Go.RowKit
section
variable {P : Program} {au : Array Oper} {Q : Exit → Act → World → Prop} {md : Region.Mode} {S : World → Prop} {i fuel : Nat} {oi : Oper} {v : Value} {listed : Array Bool} {a : Act} {w : World}
theorem ai (i : Nat) (v : Value) (hS : S w) {b : Act} (h : wpAnyH P md au Q S fuel (listed.setIfInBounds i true) b w) (hi : au[i]? = some oi := by rfl) (hs : Region.noSelect au = true := by kernel_rfl) (hf : Region.free md au listed i = true := by kernel_rfl) (hr : (Region.ready md au listed).contains i = true := by kernel_rfl) (hQ : ∀ c a w, Q (.panic c) (a.put oi.dst v) w → Q (.panic c) a w := by exact fun _ _ _ h => h) (hy : YieldsIf P au S oi v a := by exact Or.inl ⟨by rfl, fun w h => by first | go_simp | (obtain ⟨h1, h2⟩ := h; go_simp) | (obtain ⟨h1, h2, h3⟩ := h; go_simp) | (obtain ⟨h1, h2, h3, h4⟩ := h; go_simp)⟩) (hb : a.put oi.dst v = b := by simp only [Act.put, List.getElem_toArray, List.getElem_cons_succ, List.getElem_cons_zero, List.setIfInBounds_toArray, List.set_cons_succ, List.set_cons_zero]; exact rfl) : wpAnyH P md au Q S (fuel + 1) listed a w := wpAnyH_take hi hs hf hr hQ hy hS (hb ▸ h)
theorem rdA (i : Nat) {o : Oper} (h : ∀ K' : Act → World → Prop, Shut (∀ a w, S w → (S w → wpAnyH P md au Q S fuel (listed.setIfInBounds i true) a w) → K' a w) → if Region.wanted o (yielded au a.tmps) = true then Oper.wp P o a w K' Q else K' (a.put o.dst undef) w) (hr : Region.ready md au listed = [i] := by kernel_rfl) (ho : au[i]? = some o := by rfl) : wpAnyH P md au Q S (fuel + 1) listed a w := wpAnyH_ready hr (by simp) (AllReadyH.cons ho h AllReadyH.nil)
theorem aR (i : Nat) {o : Oper} (h : ∀ K' : Act → World → Prop, Shut (∀ a w, S w → (S w → wpAnyH P md au Q S fuel (listed.setIfInBounds i true) a w) → K' a w) → Oper.wp P o a w K' Q) (hr : Region.ready md au listed = [i] := by kernel_rfl) (ho : au[i]? = some o := by rfl) (hw : Region.wanted o (yielded au a.tmps) = true := by rfl) : wpAnyH P md au Q S (fuel + 1) listed a w := rdA i (fun K hK => by rw [if_pos hw]; exact h K hK) hr ho
end
abbrev bQ (v : Value) (w : World) : Ending → World → Prop := fun e w' => e = .returned v ∧ Below w.heap.size w w'
theorem eQ {p : Prop} (h : p := by exact ⟨_, ae rfl⟩) : p := h

end Go.Proofs.YtaablbmgagiajabGreatDoor
