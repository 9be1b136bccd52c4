/- 'FnExactAreStreets' answers true at every input, and its arguments read afterwards as before. No condition beyond the statement's own. -/
import Derived.Test.YtdgpodopkfnpeabLaw
import Derived.Test.YtdgpodopkfnpeabExAreStreets
import Derived.Test.YtdgpodopkfnpeabLawStt
namespace Go.Proofs.Ytdgpodopkfnpeab
open Go.ChangeShapes Go.WideShapes Go.ChangeAt Go.RowKit Go.ChangeMaps
set_option linter.unusedVariables false
set_option maxRecDepth 100000 in
theorem fnExactAreStreets_walk (W : World) (base : Nat) (args : Array Value) {H : Type} {enc : TypeId × Value → H} (ds : List (DataW H)) (ps : List MemPlace)
    (hval : ∀ (j : Nat) t v, Try.f5.params[j]? = some t → args[j]? = some v → Value.okWide Try.prog W .any base t v)
    (hA : DataW.TrodAll enc Try.prog W 0 (fun _ => true) true Try.f5.params.toList args.toList ds ps) (hlt : ∀ x ∈ ps, x.block < W.heap.size) (hz : W.noneFrozen ps) :
    Calls Try.prog 5 args W fun e W' => e = .returned (.bool true) ∧ Below W.heap.size W W' := by
  rw [Try.params5] at hA hval
  obtain ⟨v0, vs0, d0, ds0, p0, q0, hargs, rfl, rfl, h0, r0⟩ := trodAll_cons hA
  obtain ⟨rfl, rfl, rfl⟩ := trodAll_nil r0
  obtain rfl : args = #[v0] := by cases args; simp_all
  have hlt0 : ∀ x ∈ p0, x.block < W.heap.size := fun x hx => hlt x (by simp [hx])
  obtain ⟨A0, n0, c0, zs0, rfl, w0⟩ := arg_stts Try.underlying41 Try.underlying103 (by kernel_rfl) (by kernel_rfl) Try.underlying3 Try.underlying3 Try.underlying3 (hval 0 41 v0 rfl rfl) h0 hlt0
  exact walk_FnExactAreStreets W A0 n0 c0 zs0 w0
set_option maxRecDepth 100000 in
theorem fnExactAreStreets_lifted (os : Os) (started : os.Started) (H : Type) (enc : TypeId × Value → H) :
    ReturnsInHanded {} Try.checked os 5 .any (Rows.fnExactAreStreetsSpec.pre6 enc Try.prog Try.f5 Rows.fnExactAreStreetsRow.domain false) (Rows.fnExactAreStreetsSpec.post enc Try.prog Try.f5 false true false false) :=
  law_lifted (C := Try.checked) (tb := 4) knobless started (by kernel_rfl) Try.func5
    (ChangeSpec.witness6 (enc := enc) (C := Try.checked) false ⟨#[], #[.slice none 0 0], []⟩ 8 (by kernel_rfl) (by kernel_rfl) (by kernel_rfl) (by kernel_rfl))
    rfl (by kernel_rfl) Try.underlying4 laidOutAll (by kernel_rfl) (fun ds h => match ds, h with | [_], _ => rfl)
    (fun W base args ds ps hval hA hlt hz => fnExactAreStreets_walk W base args ds ps hval hA hlt hz)
theorem fnExactAreStreets_holds : Rows.FnExactAreStreetsSaid :=
  OpenClaim.holds_of_wide 5 Try.f5 rfl rfl rfl rfl rfl rfl rfl ⟨rfl, rfl, rfl, rfl, rfl⟩ rfl rfl rfl rfl rfl (by kernel_rfl) Try.func5 (by kernel_rfl)
    (of_decide_eq_true (by kernel_rfl)) (by unfold Func.isWrapper; first | (rw [if_pos (by decide +kernel)]; kernel_rfl) | (rw [if_neg (by decide +kernel)]; exact ⟨rfl, rfl⟩))
    (fun os started H enc _ => fnExactAreStreets_lifted os started H enc)
#print axioms fnExactAreStreets_holds
end Go.Proofs.Ytdgpodopkfnpeab
