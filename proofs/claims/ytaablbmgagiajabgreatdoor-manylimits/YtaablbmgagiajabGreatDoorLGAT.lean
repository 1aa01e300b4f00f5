import Derived.Test.YtaablbmgagiajabGreatDoorRows
import Derived.Test.YtaablbmgagiajabGreatDoorLGAS
namespace Go.Proofs.YtaablbmgagiajabGreatDoor.Ren
open Go Go.Conc
def tF : List Nat := [13, 14, 15, 16, 17, 18, 19, 20, 21, 23, 24, 28, 30, 32, 33, 34, 35, 36, 38, 39, 41, 42, 43, 44, 45, 46, 47, 48, 49, 50, 51, 52, 53, 54, 55, 56, 57, 58, 59, 60, 61, 62, 63, 64, 65, 71, 72, 73, 74, 75, 76, 77, 79, 80, 81, 82, 83, 85, 86, 87, 88, 89, 90, 91, 92, 93, 94, 95, 96, 97, 98, 99, 100, 101, 120, 121, 122, 123, 124, 125, 126, 127, 128, 130, 131, 132, 133, 134, 135, 136, 137, 138, 139, 140, 141, 142, 143, 144, 145, 146, 147, 148, 149, 150, 151, 152, 153, 154, 155, 156, 157, 158, 159, 160, 161, 162, 163, 169, 170, 171, 172, 173, 174, 175, 176, 177, 178, 179, 180, 181, 182, 183, 184, 185, 186, 187, 188, 189, 190, 191, 192, 193, 194, 195, 196, 197, 198, 199, 200, 201, 202, 203, 204, 205, 206, 207, 208, 209, 210, 211, 212, 213, 214, 215, 216, 217, 218, 219, 220, 221, 222, 223, 224, 225, 226, 227, 228, 229, 230, 231, 232, 233, 234, 235, 236, 250, 251, 258, 260, 263, 265, 266, 275]
def tM (s : String) : Bool := s == "Kind" || s == "Elem" || s == "Implements" || s == "AssignableTo" || s == "As" || s == "Unwrap"
def tV (t : TypeId) : Bool := t == 5 || t == 104
noncomputable def env0 : Env := { P := Tryz.prog, T := fun g => tF.contains g, K := fun _ => true, C := fun _ => true, B := 0, R := fun _ => False, O := fun _ => False, os := default, V := tV }
noncomputable def env (B : Nat) (R O : Nat → Prop) (os : Os) : Env := { P := Tryz.prog, T := fun g => tF.contains g, K := fun _ => true, C := fun c => okCode env0 tM c && noD c, B, R, O, os, V := tV }
theorem okCode_congr (P : Program) (T : FuncId → Bool) (K : TypeId → Bool) (V : TypeId → Bool) (M : String → Bool) (C C' : Code → Bool) (B B' : Nat) (R R' O O' : Nat → Prop) (os os' : Os) : ∀ c, okCode ⟨P, T, K, C, B, R, O, os, V⟩ M c = okCode ⟨P, T, K, C', B', R', O', os', V⟩ M c := by
  have hx : okX ⟨P, T, K, C, B, R, O, os, V⟩ = okX ⟨P, T, K, C', B', R', O', os', V⟩ := by
    funext x
    cases x <;> rfl
  have hxs : okXs ⟨P, T, K, C, B, R, O, os, V⟩ = okXs ⟨P, T, K, C', B', R', O', os', V⟩ := by
    funext l
    unfold okXs
    rw [hx]
  have hb : okB ⟨P, T, K, C, B, R, O, os, V⟩ = okB ⟨P, T, K, C', B', R', O', os', V⟩ := by
    funext b ts t
    cases b <;> rfl
  have hc : okCall ⟨P, T, K, C, B, R, O, os, V⟩ M = okCall ⟨P, T, K, C', B', R', O', os', V⟩ M := by
    funext c t
    unfold okCall
    rw [hxs, hx, hb]
  have ho : okOp ⟨P, T, K, C, B, R, O, os, V⟩ M = okOp ⟨P, T, K, C', B', R', O', os', V⟩ M := by
    funext o
    unfold okOp
    rw [hx, hxs, hc]
    rfl
  intro c
  induction c with
  | region _ ops _ => simp only [okCode]; rw [ho]
  | seq a b iha ihb => simp only [okCode]; rw [iha, ihb]
  | cond x a b iha ihb => simp only [okCode]; rw [hx, iha, ihb]
  | rangeFunc x _ a b iha ihb => simp only [okCode]; rw [hx, iha, ihb]
  | block _ c ih => simp only [okCode]; rw [ih]
  | loop c ih => simp only [okCode]; rw [ih]
  | _ => rfl
theorem okCode_same (B : Nat) (R O : Nat → Prop) (os : Os) (c : Code) : okCode (env B R O os) tM c = okCode env0 tM c := okCode_congr _ _ _ _ _ _ _ _ _ _ _ _ _ _ _ c
noncomputable def bodyOk (g : FuncId) : Bool := match Tryz.prog.funcs[g]? with
  | some fn => match fn.body with
    | some c => okCode env0 tM c && !(fn.name == "runtime.NumGoroutine")
    | none => true
  | none => true
theorem bodies_ok : tF.all bodyOk = true := by kernel_rfl
theorem meths_ok : ((List.range Tryz.prog.types.size).all fun t => ["Kind", "Elem", "Implements", "AssignableTo", "As", "Unwrap"].all fun s => mokB env0 t s) = true := by kernel_rfl
theorem ahead_ok : Tryz.prog.follows .staticDataAhead = true := by kernel_rfl
theorem back_ok : Tryz.prog.follows .rangeFuncRecover = true := by kernel_rfl
end Go.Proofs.YtaablbmgagiajabGreatDoor.Ren
