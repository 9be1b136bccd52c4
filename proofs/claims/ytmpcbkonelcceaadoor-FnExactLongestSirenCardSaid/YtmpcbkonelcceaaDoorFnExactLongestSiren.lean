/- 'FnExactLongestSiren' answers true at every input, and its arguments read afterwards as before. No condition beyond the statement's own. -/
import Derived.Test.YtmpcbkonelcceaaDoorBndlD
import Derived.Test.YtmpcbkonelcceaaDoorExLongestSiren
import Derived.Test.YtmpcbkonelcceaaDoorCards
import Derived.Test.YtmpcbkonelcceaaDoorTie
import Derived.SevenTiedAt
namespace Go.Proofs.YtmpcbkonelcceaaDoor
open Go.ChangeShapes Go.WideShapes Go.ChangeAt Go.RowKit Go.ChangeMaps
set_option linter.unusedVariables false
set_option maxRecDepth 100000 in
theorem fnExactLongestSiren_walk (W : World) (base : Nat) (args : Array Value) {H : Type} {enc : TypeId × Value → H} (ds : List (DataW H)) (ps : List MemPlace)
    (hval : ∀ (j : Nat) t v, Tryd.f6.params[j]? = some t → args[j]? = some v → Value.okWide Tryd.prog W .any base t v)
    (hA : DataW.TrodAll enc Tryd.prog W 0 (fun _ => true) true Tryd.f6.params.toList args.toList ds ps) (hlt : ∀ x ∈ ps, x.block < W.heap.size) (hz : W.noneFrozen ps) (hL : laidMetH Tryd.prog Rows.fnExactLongestSirenRow.laid W) :
    Calls Tryd.prog 6 args W fun e W' => e = .returned (.bool true) ∧ Below W.heap.size W W' := by
  rw [Tryd.params6] at hA hval
  obtain ⟨v0, vs0, d0, ds0, p0, q0, hargs, rfl, rfl, h0, r0⟩ := trodAll_cons hA
  obtain ⟨rfl, rfl, rfl⟩ := trodAll_nil r0
  obtain rfl : args = #[v0] := by cases args; simp_all
  have hlt0 : ∀ x ∈ p0, x.block < W.heap.size := fun x hx => hlt x (by simp [hx])
  obtain ⟨A0, n0, c0, zs0, rfl, w0⟩ := arg_paths Tryd.underlying22 Tryd.underlying52 (by kernel_rfl) (by kernel_rfl) Tryd.underlying3 Tryd.underlying3 Tryd.underlying3 Tryd.underlying3 (hval 0 22 v0 rfl rfl) h0 hlt0
  exact walk_FnExactLongestSiren W A0 n0 c0 zs0 w0 (clrs_of_laid hL (by kernel_rfl))
set_option maxRecDepth 100000 in
theorem fnExactLongestSiren_lifted (os : Os) (started : os.Started) (H : Type) (enc : TypeId × Value → H) :
    ReturnsInHanded {} Tryd.checked os 6 .any (fun w args => (Rows.fnExactLongestSirenSpec.pre enc Tryd.prog Tryd.f6 [] false w args ∧ laidMetH Tryd.prog Rows.fnExactLongestSirenRow.laid w) ∧ sizedMet enc Tryd.prog Tryd.f6 (OpenSpec.ofChange Rows.fnExactLongestSirenSpec) false w args)
      (Rows.fnExactLongestSirenSpec.post enc Tryd.prog Tryd.f6 false true false false) :=
  law_lifted_vars (C := Tryd.checked) (tb := 4) (laid := Rows.fnExactLongestSirenRow.laid) knobless started (by kernel_rfl) Tryd.func6
    (laid_witness (C := Tryd.checked) #[.slice none 0 0] 8 (by kernel_rfl) (by kernel_rfl) (by kernel_rfl) (by kernel_rfl) (by kernel_rfl) (by kernel_rfl) (by kernel_rfl) (by kernel_rfl))
    (by kernel_rfl) (by kernel_rfl) Tryd.underlying4 laidOutAll (by kernel_rfl) (fun ds gs h1 h2 => match ds, gs, h1, h2 with | [_], [_], _, _ => rfl)
    (fun W base args ds ps hval hA hlt hz hL => fnExactLongestSiren_walk W base args ds ps hval hA hlt hz hL)
theorem fnExactLongestSiren_said : Rows.FnExactLongestSirenSaid :=
  OpenClaim.holds_of_wide 6 Tryd.f6 rfl rfl rfl rfl rfl rfl rfl ⟨rfl, rfl, rfl, rfl, rfl⟩ rfl rfl rfl rfl rfl (by kernel_rfl) Tryd.func6 (by kernel_rfl)
    (of_decide_eq_true (by kernel_rfl)) (by unfold Func.isWrapper; first | (rw [if_pos (by decide +kernel)]; kernel_rfl) | (rw [if_neg (by decide +kernel)]; exact ⟨rfl, rfl⟩))
    (fun os started H enc _ => fnExactLongestSiren_lifted os started H enc)
theorem fnExactLongestSiren_plain (f : FuncId) (fn : Func) (hf : Tryd.pinned.checked.prog.funcNamed "loop.example/g03006/laws.FnExactLongestSiren" = some f) (hfn : Tryd.pinned.checked.prog.funcs[f]? = some fn) :
    false = Tryd.pinned.checked.prog.looks [] ∧ ∀ (j : Nat) t, fn.params[j]? = some t → Tryd.pinned.checked.prog.wantsStandIn t = false := by
  obtain rfl : f = 6 := Option.some.inj ((show Tryd.prog.funcNamed "loop.example/g03006/laws.FnExactLongestSiren" = some 6 by kernel_rfl).symm.trans hf) |>.symm
  obtain rfl : fn = Tryd.f6 := (Option.some.inj (Tryd.func6.symm.trans hfn)).symm
  refine ⟨by kernel_rfl, fun j t ht => ?_⟩
  have h : (Tryd.f6.params.all fun t => !Tryd.pinned.checked.prog.wantsStandIn t) = true := by kernel_rfl
  simpa using Array.all_eq_true_iff_forall_mem.1 h t (Array.mem_of_getElem? ht)
theorem fnExactLongestSiren_holds : Rows.FnExactLongestSirenCardSaid :=
  Claim7.holds_tied_plain_at .later [] _ _ _ _ fnExactLongestSiren_said (fun _ h => by cases h) (by kernel_rfl) (fun _ h => by cases h) fnExactLongestSiren_row_tie rfl ⟨rfl, rfl⟩ (by kernel_rfl) rfl fnExactLongestSiren_plain (by kernel_rfl)
#print axioms fnExactLongestSiren_holds
end Go.Proofs.YtmpcbkonelcceaaDoor
