/- 'FnExactLongestWait' answers true at every input, and its arguments read afterwards as before. No condition beyond the statement's own. -/
import Derived.Test.YtdgpodopkfnpeaaLaw
import Derived.Test.YtdgpodopkfnpeaaExLongestWait
import Derived.Test.YtdgpodopkfnpeaaLawWnt
namespace Go.Proofs.Ytdgpodopkfnpeaa
open Go.ChangeShapes Go.WideShapes Go.ChangeAt Go.RowKit Go.ChangeMaps
set_option linter.unusedVariables false
set_option maxRecDepth 100000 in
theorem fnExactLongestWait_walk (W : World) (base : Nat) (args : Array Value) {H : Type} {enc : TypeId × Value → H} (ds : List (DataW H)) (ps : List MemPlace)
    (hval : ∀ (j : Nat) t v, Try.f10.params[j]? = some t → args[j]? = some v → Value.okWide Try.prog W .any base t v)
    (hA : DataW.TrodAll enc Try.prog W 0 (fun _ => true) true Try.f10.params.toList args.toList ds ps) (hlt : ∀ x ∈ ps, x.block < W.heap.size) (hz : W.noneFrozen ps) :
    Calls Try.prog 10 args W fun e W' => e = .returned (.bool true) ∧ Below W.heap.size W W' := by
  rw [Try.params10] at hA hval
  obtain ⟨v0, vs0, d0, ds0, p0, q0, hargs, rfl, rfl, h0, r0⟩ := trodAll_cons hA
  obtain ⟨rfl, rfl, rfl⟩ := trodAll_nil r0
  obtain rfl : args = #[v0] := by cases args; simp_all
  have hlt0 : ∀ x ∈ p0, x.block < W.heap.size := fun x hx => hlt x (by simp [hx])
  obtain ⟨A0, n0, c0, zs0, rfl, w0⟩ := arg_wnts Try.underlying61 Try.underlying126 (by kernel_rfl) (by kernel_rfl) Try.underlying3 Try.underlying3 (hval 0 61 v0 rfl rfl) h0 hlt0
  exact walk_FnExactLongestWait W A0 n0 c0 zs0 w0
set_option maxRecDepth 100000 in
theorem fnExactLongestWait_lifted (os : Os) (started : os.Started) (H : Type) (enc : TypeId × Value → H) :
    ReturnsInHanded {} Try.checked os 10 .any (Rows.fnExactLongestWaitSpec.pre6 enc Try.prog Try.f10 Rows.fnExactLongestWaitRow.domain false) (Rows.fnExactLongestWaitSpec.post enc Try.prog Try.f10 false true false false) :=
  law_lifted (C := Try.checked) (tb := 4) knobless started (by kernel_rfl) Try.func10
    (ChangeSpec.witness6 (enc := enc) (C := Try.checked) false ⟨#[], #[.slice none 0 0], []⟩ 8 (by kernel_rfl) (by kernel_rfl) (by kernel_rfl) (by kernel_rfl))
    rfl (by kernel_rfl) Try.underlying4 laidOutAll (by kernel_rfl) (fun ds h => match ds, h with | [_], _ => rfl)
    (fun W base args ds ps hval hA hlt hz => fnExactLongestWait_walk W base args ds ps hval hA hlt hz)
theorem fnExactLongestWait_holds : Rows.FnExactLongestWaitSaid :=
  OpenClaim.holds_of_wide 10 Try.f10 rfl rfl rfl rfl rfl rfl rfl ⟨rfl, rfl, rfl, rfl, rfl⟩ rfl rfl rfl rfl rfl (by kernel_rfl) Try.func10 (by kernel_rfl)
    (of_decide_eq_true (by kernel_rfl)) (by unfold Func.isWrapper; first | (rw [if_pos (by decide +kernel)]; kernel_rfl) | (rw [if_neg (by decide +kernel)]; exact ⟨rfl, rfl⟩))
    (fun os started H enc _ => fnExactLongestWait_lifted os started H enc)
#print axioms fnExactLongestWait_holds
end Go.Proofs.Ytdgpodopkfnpeaa
