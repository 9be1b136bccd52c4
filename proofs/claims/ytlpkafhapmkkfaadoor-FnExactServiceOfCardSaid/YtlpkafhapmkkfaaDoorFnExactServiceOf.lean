/- 'FnExactServiceOf' answers true at every input, and its arguments read afterwards as before. No condition beyond the statement's own. -/
import Derived.Test.YtlpkafhapmkkfaaDoorBndlD
import Derived.Test.YtlpkafhapmkkfaaDoorExServiceOf
import Derived.Test.YtlpkafhapmkkfaaDoorLawPrt
import Derived.Test.YtlpkafhapmkkfaaDoorCards
import Derived.Test.YtlpkafhapmkkfaaDoorTie
import Derived.SevenTiedAt
namespace Go.Proofs.YtlpkafhapmkkfaaDoor
open Go.ChangeShapes Go.WideShapes Go.ChangeAt Go.RowKit Go.ChangeMaps
set_option linter.unusedVariables false
set_option maxRecDepth 100000 in
theorem fnExactServiceOf_walk (W : World) (base : Nat) (args : Array Value) {H : Type} {enc : TypeId × Value → H} (ds : List (DataW H)) (ps : List MemPlace)
    (hval : ∀ (j : Nat) t v, Tryd.f3.params[j]? = some t → args[j]? = some v → Value.okWide Tryd.prog W .any base t v)
    (hA : DataW.TrodAll enc Tryd.prog W 0 (fun _ => true) true Tryd.f3.params.toList args.toList ds ps) (hlt : ∀ x ∈ ps, x.block < W.heap.size) (hz : W.noneFrozen ps) (hL : laidMetH Tryd.prog Rows.fnExactServiceOfRow.laid W) :
    Calls Tryd.prog 3 args W fun e W' => e = .returned (.bool true) ∧ Below W.heap.size W W' := by
  rw [Tryd.params3] at hA hval
  obtain ⟨v0, vs0, d0, ds0, p0, q0, hargs, rfl, rfl, h0, r0⟩ := trodAll_cons hA
  obtain ⟨v1, vs1, d1, ds1, p1, q1, rfl, rfl, rfl, h1, r1⟩ := trodAll_cons r0
  obtain ⟨v2, vs2, d2, ds2, p2, q2, rfl, rfl, rfl, h2, r2⟩ := trodAll_cons r1
  obtain ⟨rfl, rfl, rfl⟩ := trodAll_nil r2
  obtain rfl : args = #[v0, v1, v2] := by cases args; simp_all
  have hlt0 : ∀ x ∈ p0, x.block < W.heap.size := fun x hx => hlt x (by simp [hx])
  have hlt1 : ∀ x ∈ p1, x.block < W.heap.size := fun x hx => hlt x (by simp [hx])
  have hlt2 : ∀ x ∈ p2, x.block < W.heap.size := fun x hx => hlt x (by simp [hx])
  obtain ⟨A0, n0, c0, zs0, rfl, w0⟩ := arg_paths Tryd.underlying22 Tryd.underlying49 (by kernel_rfl) (by kernel_rfl) Tryd.underlying3 Tryd.underlying3 Tryd.underlying3 Tryd.underlying3 (hval 0 22 v0 rfl rfl) h0 hlt0
  obtain ⟨A1, n1, c1, zs1, rfl, w1⟩ := arg_prts Tryd.underlying23 Tryd.underlying41 (by kernel_rfl) (by kernel_rfl) Tryd.underlying39 Tryd.underlying3 (by kernel_rfl) Tryd.underlying3 (hval 1 23 v1 rfl rfl) h1 hlt1
  obtain ⟨a2, rfl, rfl, rfl, w2⟩ := open_int Tryd.underlying3 (hval 2 3 v2 rfl rfl) h2
  exact walk_FnExactServiceOf W A0 n0 c0 zs0 w0 A1 n1 c1 zs1 w1 a2 w2 (bru_of_laid hL (by kernel_rfl)) (clrs_of_laid hL (by kernel_rfl))
set_option maxRecDepth 100000 in
theorem fnExactServiceOf_lifted (os : Os) (started : os.Started) (H : Type) (enc : TypeId × Value → H) :
    ReturnsInHanded {} Tryd.checked os 3 .any (fun w args => (Rows.fnExactServiceOfSpec.pre enc Tryd.prog Tryd.f3 [] false w args ∧ laidMetH Tryd.prog Rows.fnExactServiceOfRow.laid w) ∧ sizedMet enc Tryd.prog Tryd.f3 (OpenSpec.ofChange Rows.fnExactServiceOfSpec) false w args)
      (Rows.fnExactServiceOfSpec.post enc Tryd.prog Tryd.f3 false true false false) :=
  law_lifted_vars (C := Tryd.checked) (tb := 4) (laid := Rows.fnExactServiceOfRow.laid) knobless started (by kernel_rfl) Tryd.func3
    (laid_witness (C := Tryd.checked) #[.slice none 0 0, .slice none 0 0, .int .i64 0] 8 (by kernel_rfl) (by kernel_rfl) (by kernel_rfl) (by kernel_rfl) (by kernel_rfl) (by kernel_rfl) (by kernel_rfl) (by kernel_rfl))
    (by kernel_rfl) (by kernel_rfl) Tryd.underlying4 laidOutAll (by kernel_rfl) (fun ds gs h1 h2 => match ds, gs, h1, h2 with | [_, _, _], [_], _, _ => rfl)
    (fun W base args ds ps hval hA hlt hz hL => fnExactServiceOf_walk W base args ds ps hval hA hlt hz hL)
theorem fnExactServiceOf_said : Rows.FnExactServiceOfSaid :=
  OpenClaim.holds_of_wide 3 Tryd.f3 rfl rfl rfl rfl rfl rfl rfl ⟨rfl, rfl, rfl, rfl, rfl⟩ rfl rfl rfl rfl rfl (by kernel_rfl) Tryd.func3 (by kernel_rfl)
    (of_decide_eq_true (by kernel_rfl)) (by unfold Func.isWrapper; first | (rw [if_pos (by decide +kernel)]; kernel_rfl) | (rw [if_neg (by decide +kernel)]; exact ⟨rfl, rfl⟩))
    (fun os started H enc _ => fnExactServiceOf_lifted os started H enc)
theorem fnExactServiceOf_plain (f : FuncId) (fn : Func) (hf : Tryd.pinned.checked.prog.funcNamed "loop.example/g03006/laws.FnExactServiceOf" = some f) (hfn : Tryd.pinned.checked.prog.funcs[f]? = some fn) :
    false = Tryd.pinned.checked.prog.looks [] ∧ ∀ (j : Nat) t, fn.params[j]? = some t → Tryd.pinned.checked.prog.wantsStandIn t = false := by
  obtain rfl : f = 3 := Option.some.inj ((show Tryd.prog.funcNamed "loop.example/g03006/laws.FnExactServiceOf" = some 3 by kernel_rfl).symm.trans hf) |>.symm
  obtain rfl : fn = Tryd.f3 := (Option.some.inj (Tryd.func3.symm.trans hfn)).symm
  refine ⟨by kernel_rfl, fun j t ht => ?_⟩
  have h : (Tryd.f3.params.all fun t => !Tryd.pinned.checked.prog.wantsStandIn t) = true := by kernel_rfl
  simpa using Array.all_eq_true_iff_forall_mem.1 h t (Array.mem_of_getElem? ht)
theorem fnExactServiceOf_holds : Rows.FnExactServiceOfCardSaid :=
  Claim7.holds_tied_plain_at .later [] _ _ _ _ fnExactServiceOf_said (fun _ h => by cases h) (by kernel_rfl) (fun _ h => by cases h) fnExactServiceOf_row_tie rfl ⟨rfl, rfl⟩ (by kernel_rfl) rfl fnExactServiceOf_plain (by kernel_rfl)
#print axioms fnExactServiceOf_holds
end Go.Proofs.YtlpkafhapmkkfaaDoor
