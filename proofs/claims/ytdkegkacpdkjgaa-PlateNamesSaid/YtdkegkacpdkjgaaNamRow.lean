/- 'PlateNames': in whatever memory, on every order of evaluation that Go leaves open: the call returns true. No condition. -/
import Derived.Test.YtdkegkacpdkjgaaRows
import Derived.Test.YtdkegkacpdkjgaaPss
import Derived.ProofKit
import Derived.OpenShut
import Derived.Below
import Derived.ChangeSame
namespace Go.Proofs.Ytdkegkacpdkjgaa.PlateNamesRow
open Go.ChangeShapes Go.WideShapes Go.ChangeAt Go.RowKit

theorem own : ownKnob Try.prog.godebug = none := by kernel_rfl

set_option maxRecDepth 100000 in
theorem lifted (os : Os) (started : os.Started) (H : Type) (enc : TypeId × Value → H) :
    ReturnsInHanded {} Try.checked os 3 .any (Rows.plateNamesSpec.pre6 enc Try.prog Try.f3 Rows.plateNamesRow.domain false) (Rows.plateNamesSpec.post enc Try.prog Try.f3 false true false false) := by
  refine returnsInHanded_of_change (C := Try.checked) own started (by kernel_rfl) Try.func3
    (ChangeSpec.witness6 (enc := enc) (C := Try.checked) false ⟨#[], #[], []⟩ 8 (by kernel_rfl) (by kernel_rfl) (by kernel_rfl) (by kernel_rfl)) ?_
  intro W base args ds gs before hval0 hW hcnd _
  have hW' := hW
  obtain ⟨p, q, hA0, hV, rfl, hfz, hnd⟩ := hW
  have hA : DataW.TrodAll enc Try.prog W 0 (fun _ => true) true Try.f3.params.toList args.toList ds p := hA0
  rw [Try.params3] at hA
  obtain ⟨rfl, rfl, rfl⟩ := trodAll_none hA
  obtain ⟨rfl, rfl⟩ := trodVars_none hV
  clear hA0 hval0
  simp only [List.append_nil] at hW'
  refine (names_any W).mono fun e W' ⟨he, hb⟩ => ?_
  subst he
  have hres : ∀ (b : Nat) (sp : Nat → Bool) (hd : Bool), DataW.TrodAll enc Try.prog W' b sp hd Try.f3.resultTypes.toList ((Value.bool true).resultList Try.f3.resultTypes.size) (Rows.plateNamesSpec.fn H ([] ++ [])).results [] :=
    fun _ _ _ => trodAll_cons_mk (shut_bool Try.underlying4 _) trodAll_mk0
  have hargs : ∀ sp : Nat → Bool, DataW.TrodAll enc Try.prog W' 0 sp true Try.f3.params.toList #[].toList (Rows.plateNamesSpec.fn H ([] ++ [])).args [] := fun _ => rfl
  have hvars : ∀ sp : Nat → Bool, DataW.TrodVars enc Try.prog W' sp Rows.plateNamesSpec.vars (Rows.plateNamesSpec.fn H ([] ++ [])).vars [] := fun _ => hV
  refine ⟨_, rfl, ⟨[], [], [], [], [], [], hW', hres _ _ _, hargs _, hvars _, hb.frame _, fun _ => ?_⟩⟩
  refine ⟨ok_one (by kernel_rfl) rfl (okWide_bool_mk Try.underlying4 _), _, _, _, ⟨[], [], trodAll_append (hargs _) (hres _ _ _), hvars _, rfl, ?_, ?_⟩, ?_⟩
  · intro b o hp; cases hp
  · intro h; exact .nil
  · intro p hp; exact fun _ => hp

theorem over : Rows.plateNamesRow.holds Try.pinned (OpenSpec.ofChange Rows.plateNamesSpec) :=
  OpenClaim.holds_of_wide 3 Try.f3 rfl rfl rfl rfl rfl rfl rfl ⟨rfl, rfl, rfl, rfl, rfl⟩ rfl rfl rfl rfl rfl (by kernel_rfl) Try.func3 (by kernel_rfl)
    (of_decide_eq_true (by kernel_rfl)) (by unfold Func.isWrapper; first | (rw [if_pos (by decide +kernel)]; kernel_rfl) | (rw [if_neg (by decide +kernel)]; exact ⟨rfl, rfl⟩))
    (fun os started H enc _ => lifted os started H enc)

theorem plateNames_holds : Rows.PlateNamesSaid := over
#print axioms plateNames_holds
end Go.Proofs.Ytdkegkacpdkjgaa.PlateNamesRow
