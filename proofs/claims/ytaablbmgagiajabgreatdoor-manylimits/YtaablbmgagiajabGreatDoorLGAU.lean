import Derived.Test.YtaablbmgagiajabGreatDoorLGAT
namespace Go.Proofs.YtaablbmgagiajabGreatDoor.Ren
open Go Go.Conc Go.Extern
noncomputable def fnAt (g : Nat) : Func := (Tryz.prog.funcs[g]?).getD default
theorem fnAt_of {g : Nat} {fn : Func} (h : Tryz.prog.funcs[g]? = some fn) : fn = fnAt g := by
  unfold fnAt
  rw [h]
  rfl
def xF : List Nat := [120, 121, 122, 162, 169, 170, 171, 211, 224, 232, 250, 251, 260, 263, 265, 266]
theorem noBody_ok : (tF.all fun g => ((Tryz.prog.funcs[g]?).map (fun fn => fn.body.isSome)).getD true || xF.contains g) = true := by kernel_rfl
theorem names_ok : (xF.all fun g => !((fnAt g).name == "runtime.NumGoroutine") && (Extern.findNext (fnAt g)).isNone) = true := by kernel_rfl
theorem find120 : Extern.find (fnAt 120) = some (fun args => ReflectliteValue.unpack (args.getD 0 (.tuple #[]))) := by kernel_rfl
theorem find121 : Extern.find (fnAt 121) = some (ReflectliteValue.methodAny (ReflectliteValue.valueError "reflectlite.Value.Type" 0) fun t _ _ _ => ReflectliteType.toType t) := by kernel_rfl
theorem find122 : Extern.find (fnAt 122) = some (ReflectliteValue.method (ReflectliteValue.valueError "reflectlite.Value.IsNil" 0) ReflectliteValue.isNil) := by kernel_rfl
theorem find162 : Extern.find (fnAt 162) = some (AbiNoEscape.same) := by kernel_rfl
theorem find169 : Extern.find (fnAt 169) = some (ReflectliteType.typeOf) := by kernel_rfl
theorem find170 : Extern.find (fnAt 170) = some (ReflectliteValue.method (ReflectliteValue.valueError "reflectlite.Value.Elem" 0) ReflectliteValue.elem) := by kernel_rfl
theorem find171 : Extern.find (fnAt 171) = some (ReflectliteValue.set) := by kernel_rfl
theorem find211 : Extern.find (fnAt 211) = some (BytealgIndex.index) := by kernel_rfl
theorem find224 : Extern.find (fnAt 224) = some (BytealgIndexByte.indexByte) := by kernel_rfl
theorem find232 : Extern.find (fnAt 232) = some (BytealgMakeNoZero.makeNoZero (fnAt 232).params (fnAt 232).resultTypes) := by kernel_rfl
theorem find251 : Extern.find (fnAt 251) = some (ReflectliteType.abiMethod fun t => (do pure (.int .u8 (← Rtype.kind t)))) := by kernel_rfl
theorem find260 : Extern.find (fnAt 260) = some (ReflectliteValue.method (pure (.int .u8 0)) fun _ _ _ k => pure (.int .u8 (Int.ofNat k))) := by kernel_rfl
theorem find263 : Extern.find (fnAt 263) = some (ReflectliteType.relation "AssignableTo" ReflectliteType.assignableTo) := by kernel_rfl
theorem find265 : Extern.find (fnAt 265) = some (ReflectliteType.method ReflectliteType.elem) := by kernel_rfl
theorem find266 : Extern.find (fnAt 266) = some (ReflectliteType.relation "Implements" ReflectliteType.implements_) := by kernel_rfl
theorem find250 : Extern.find (fnAt 250) = none := by kernel_rfl
theorem name250 : ((fnAt 250).name.endsWith ".init" && !(fnAt 250).name.startsWith "(" && !(fnAt 250).name.startsWith "gosem.") = false := by kernel_rfl
theorem rtype_cut (w : World) (es : Array Event) : (cutType "internal/reflectlite.rtype").runT Tryz.prog w es = (.ok 237 w, es) := by kernel_rfl
theorem verr_cut (w : World) (es : Array Event) : (cutType "*internal/reflectlite.ValueError").runT Tryz.prog w es = (.ok 238 w, es) := by kernel_rfl
theorem verr_elem (w : World) (es : Array Event) : (elemOf 238).runT Tryz.prog w es = (.ok 324 w, es) := by kernel_rfl
theorem steps_ok : (Tryz.prog.funcs.toList.all fun fn => (fn.body.map readies).all (fun l => l.isEmpty)) = true := by kernel_rfl
end Go.Proofs.YtaablbmgagiajabGreatDoor.Ren
