/- 'FnExactAllServices' answers true at every input, and its arguments read afterwards as before. No condition beyond the statement's own. -/
import Derived.Test.YtlpkafhapmkkfaaGreatDoorBndlE
import Derived.Test.YtlpkafhapmkkfaaGreatDoorExAllServices
import Derived.Test.YtlpkafhapmkkfaaGreatDoorLawPrt
import Derived.Test.YtlpkafhapmkkfaaGreatDoorCards
import Derived.Test.YtlpkafhapmkkfaaGreatDoorTie
import Derived.SevenTiedAt
namespace Go.Proofs.YtlpkafhapmkkfaaGreatDoor
open Go.ChangeShapes Go.WideShapes Go.ChangeAt Go.RowKit Go.ChangeMaps
set_option linter.unusedVariables false
set_option maxRecDepth 100000 in
theorem fnExactAllServices_walk (W : World) (base : Nat) (args : Array Value) {H : Type} {enc : TypeId × Value → H} (ds : List (DataW H)) (ps : List MemPlace)
    (hval : ∀ (j : Nat) t v, Tryz.f3.params[j]? = some t → args[j]? = some v → Value.okWide Tryz.prog W .any base t v)
    (hA : DataW.TrodAll enc Tryz.prog W 0 (fun _ => true) true Tryz.f3.params.toList args.toList ds ps) (hlt : ∀ x ∈ ps, x.block < W.heap.size) (hz : W.noneFrozen ps) (hL : laidMetH Tryz.prog Rows.fnExactAllServicesRow.laid W) :
    Calls Tryz.prog 3 args W fun e W' => e = .returned (.bool true) ∧ Below W.heap.size W W' := by
  rw [Tryz.params3] at hA hval
  obtain ⟨v0, vs0, d0, ds0, p0, q0, hargs, rfl, rfl, h0, r0⟩ := trodAll_cons hA
  obtain ⟨v1, vs1, d1, ds1, p1, q1, rfl, rfl, rfl, h1, r1⟩ := trodAll_cons r0
  obtain ⟨rfl, rfl, rfl⟩ := trodAll_nil r1
  obtain rfl : args = #[v0, v1] := by cases args; simp_all
  have hlt0 : ∀ x ∈ p0, x.block < W.heap.size := fun x hx => hlt x (by simp [hx])
  have hlt1 : ∀ x ∈ p1, x.block < W.heap.size := fun x hx => hlt x (by simp [hx])
  obtain ⟨A0, n0, c0, zs0, rfl, w0⟩ := arg_paths Tryz.underlying22 Tryz.underlying69 (by kernel_rfl) (by kernel_rfl) Tryz.underlying3 Tryz.underlying3 Tryz.underlying3 Tryz.underlying3 (hval 0 22 v0 rfl rfl) h0 hlt0
  obtain ⟨A1, n1, c1, zs1, rfl, w1⟩ := arg_prts Tryz.underlying23 Tryz.underlying60 (by kernel_rfl) (by kernel_rfl) Tryz.underlying58 Tryz.underlying3 (by kernel_rfl) Tryz.underlying3 (hval 1 23 v1 rfl rfl) h1 hlt1
  exact walk_FnExactAllServices W A0 n0 c0 zs0 w0 A1 n1 c1 zs1 w1 (bru_of_laid hL (by kernel_rfl)) (clrs_of_laid hL (by kernel_rfl))
set_option maxRecDepth 100000 in
theorem fnExactAllServices_lifted (os : Os) (started : os.Started) (H : Type) (enc : TypeId × Value → H) :
    ReturnsInHanded {} Tryz.checked os 3 .any (fun w args => (Rows.fnExactAllServicesSpec.pre enc Tryz.prog Tryz.f3 [] false w args ∧ laidMetH Tryz.prog Rows.fnExactAllServicesRow.laid w) ∧ sizedMet enc Tryz.prog Tryz.f3 (OpenSpec.ofChange Rows.fnExactAllServicesSpec) false w args)
      (Rows.fnExactAllServicesSpec.post enc Tryz.prog Tryz.f3 false true false false) :=
  law_lifted_vars (C := Tryz.checked) (tb := 4) (laid := Rows.fnExactAllServicesRow.laid) knobless started (by kernel_rfl) Tryz.func3
    (laid_witness (C := Tryz.checked) #[.slice none 0 0, .slice none 0 0] 8 (by kernel_rfl) (by kernel_rfl) (by kernel_rfl) (by kernel_rfl) (by kernel_rfl) (by kernel_rfl) (by kernel_rfl) (by kernel_rfl))
    (by kernel_rfl) (by kernel_rfl) Tryz.underlying4 laidOutAll (by kernel_rfl) (fun ds gs h1 h2 => match ds, gs, h1, h2 with | [_, _], [_], _, _ => rfl)
    (fun W base args ds ps hval hA hlt hz hL => fnExactAllServices_walk W base args ds ps hval hA hlt hz hL)
theorem fnExactAllServices_said : Rows.FnExactAllServicesSaid :=
  OpenClaim.holds_of_wide 3 Tryz.f3 rfl rfl rfl rfl rfl rfl rfl ⟨rfl, rfl, rfl, rfl, rfl⟩ rfl rfl rfl rfl rfl (by kernel_rfl) Tryz.func3 (by kernel_rfl)
    (of_decide_eq_true (by kernel_rfl)) (by unfold Func.isWrapper; first | (rw [if_pos (by decide +kernel)]; kernel_rfl) | (rw [if_neg (by decide +kernel)]; exact ⟨rfl, rfl⟩))
    (fun os started H enc _ => fnExactAllServices_lifted os started H enc)
theorem fnExactAllServices_plain (f : FuncId) (fn : Func) (hf : Tryz.pinned.checked.prog.funcNamed "loop.example/g03006/laws.FnExactAllServices" = some f) (hfn : Tryz.pinned.checked.prog.funcs[f]? = some fn) :
    false = Tryz.pinned.checked.prog.looks [] ∧ ∀ (j : Nat) t, fn.params[j]? = some t → Tryz.pinned.checked.prog.wantsStandIn t = false := by
  obtain rfl : f = 3 := Option.some.inj ((show Tryz.prog.funcNamed "loop.example/g03006/laws.FnExactAllServices" = some 3 by kernel_rfl).symm.trans hf) |>.symm
  obtain rfl : fn = Tryz.f3 := (Option.some.inj (Tryz.func3.symm.trans hfn)).symm
  refine ⟨by kernel_rfl, fun j t ht => ?_⟩
  have h : (Tryz.f3.params.all fun t => !Tryz.pinned.checked.prog.wantsStandIn t) = true := by kernel_rfl
  simpa using Array.all_eq_true_iff_forall_mem.1 h t (Array.mem_of_getElem? ht)
theorem fnExactAllServices_holds : Rows.FnExactAllServicesCardSaid :=
  Claim7.holds_tied_plain_at .later [] _ _ _ _ fnExactAllServices_said (fun _ h => by cases h) (by kernel_rfl) (fun _ h => by cases h) fnExactAllServices_row_tie rfl ⟨rfl, rfl⟩ (by kernel_rfl) rfl fnExactAllServices_plain (by kernel_rfl)
#print axioms fnExactAllServices_holds
end Go.Proofs.YtlpkafhapmkkfaaGreatDoor
