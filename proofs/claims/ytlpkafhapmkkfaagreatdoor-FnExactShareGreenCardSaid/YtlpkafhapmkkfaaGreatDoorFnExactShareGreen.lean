/- 'FnExactShareGreen' answers true at every input, and its arguments read afterwards as before. No condition beyond the statement's own. -/
import Derived.Test.YtlpkafhapmkkfaaGreatDoorBndlG
import Derived.Test.YtlpkafhapmkkfaaGreatDoorExShareGreen
import Derived.Test.YtlpkafhapmkkfaaGreatDoorLawPrt
import Derived.Test.YtlpkafhapmkkfaaGreatDoorCards
import Derived.Test.YtlpkafhapmkkfaaGreatDoorTie
import Derived.SevenTiedAt
namespace Go.Proofs.YtlpkafhapmkkfaaGreatDoor
open Go.ChangeShapes Go.WideShapes Go.ChangeAt Go.RowKit Go.ChangeMaps
set_option linter.unusedVariables false
set_option maxRecDepth 100000 in
theorem fnExactShareGreen_walk (W : World) (base : Nat) (args : Array Value) {H : Type} {enc : TypeId × Value → H} (ds : List (DataW H)) (ps : List MemPlace)
    (hval : ∀ (j : Nat) t v, Tryz.f5.params[j]? = some t → args[j]? = some v → Value.okWide Tryz.prog W .any base t v)
    (hA : DataW.TrodAll enc Tryz.prog W 0 (fun _ => true) true Tryz.f5.params.toList args.toList ds ps) (hlt : ∀ x ∈ ps, x.block < W.heap.size) (hz : W.noneFrozen ps) (hL : laidMetH Tryz.prog Rows.fnExactShareGreenRow.laid W) :
    Calls Tryz.prog 5 args W fun e W' => e = .returned (.bool true) ∧ Below W.heap.size W W' := by
  rw [Tryz.params5] at hA hval
  obtain ⟨v0, vs0, d0, ds0, p0, q0, hargs, rfl, rfl, h0, r0⟩ := trodAll_cons hA
  obtain ⟨v1, vs1, d1, ds1, p1, q1, rfl, rfl, rfl, h1, r1⟩ := trodAll_cons r0
  obtain ⟨v2, vs2, d2, ds2, p2, q2, rfl, rfl, rfl, h2, r2⟩ := trodAll_cons r1
  obtain ⟨v3, vs3, d3, ds3, p3, q3, rfl, rfl, rfl, h3, r3⟩ := trodAll_cons r2
  obtain ⟨rfl, rfl, rfl⟩ := trodAll_nil r3
  obtain rfl : args = #[v0, v1, v2, v3] := by cases args; simp_all
  have hlt0 : ∀ x ∈ p0, x.block < W.heap.size := fun x hx => hlt x (by simp [hx])
  have hlt1 : ∀ x ∈ p1, x.block < W.heap.size := fun x hx => hlt x (by simp [hx])
  have hlt2 : ∀ x ∈ p2, x.block < W.heap.size := fun x hx => hlt x (by simp [hx])
  have hlt3 : ∀ x ∈ p3, x.block < W.heap.size := fun x hx => hlt x (by simp [hx])
  obtain ⟨A0, n0, c0, zs0, rfl, w0⟩ := arg_paths Tryz.underlying22 Tryz.underlying69 (by kernel_rfl) (by kernel_rfl) Tryz.underlying3 Tryz.underlying3 Tryz.underlying3 Tryz.underlying3 (hval 0 22 v0 rfl rfl) h0 hlt0
  obtain ⟨A1, n1, c1, zs1, rfl, w1⟩ := arg_prts Tryz.underlying23 Tryz.underlying60 (by kernel_rfl) (by kernel_rfl) Tryz.underlying58 Tryz.underlying3 (by kernel_rfl) Tryz.underlying3 (hval 1 23 v1 rfl rfl) h1 hlt1
  obtain ⟨A2, n2, c2, zs2, rfl, w2⟩ := arg_dets Tryz.underlying41 Tryz.underlying99 (by kernel_rfl) (by kernel_rfl) Tryz.underlying3 Tryz.underlying3 Tryz.underlying3 Tryz.underlying4 (hval 2 41 v2 rfl rfl) h2 hlt2
  obtain ⟨a3, rfl, rfl, rfl, w3⟩ := open_int Tryz.underlying3 (hval 3 3 v3 rfl rfl) h3
  exact walk_FnExactShareGreen W A0 n0 c0 zs0 w0 A1 n1 c1 zs1 w1 A2 n2 c2 zs2 w2 a3 w3 (bru_of_laid hL (by kernel_rfl)) (clrs_of_laid hL (by kernel_rfl))
set_option maxRecDepth 100000 in
theorem fnExactShareGreen_lifted (os : Os) (started : os.Started) (H : Type) (enc : TypeId × Value → H) :
    ReturnsInHanded {} Tryz.checked os 5 .any (fun w args => (Rows.fnExactShareGreenSpec.pre enc Tryz.prog Tryz.f5 [] false w args ∧ laidMetH Tryz.prog Rows.fnExactShareGreenRow.laid w) ∧ sizedMet enc Tryz.prog Tryz.f5 (OpenSpec.ofChange Rows.fnExactShareGreenSpec) false w args)
      (Rows.fnExactShareGreenSpec.post enc Tryz.prog Tryz.f5 false true false false) :=
  law_lifted_vars (C := Tryz.checked) (tb := 4) (laid := Rows.fnExactShareGreenRow.laid) knobless started (by kernel_rfl) Tryz.func5
    (laid_witness (C := Tryz.checked) #[.slice none 0 0, .slice none 0 0, .slice none 0 0, .int .i64 0] 8 (by kernel_rfl) (by kernel_rfl) (by kernel_rfl) (by kernel_rfl) (by kernel_rfl) (by kernel_rfl) (by kernel_rfl) (by kernel_rfl))
    (by kernel_rfl) (by kernel_rfl) Tryz.underlying4 laidOutAll (by kernel_rfl) (fun ds gs h1 h2 => match ds, gs, h1, h2 with | [_, _, _, _], [_], _, _ => rfl)
    (fun W base args ds ps hval hA hlt hz hL => fnExactShareGreen_walk W base args ds ps hval hA hlt hz hL)
theorem fnExactShareGreen_said : Rows.FnExactShareGreenSaid :=
  OpenClaim.holds_of_wide 5 Tryz.f5 rfl rfl rfl rfl rfl rfl rfl ⟨rfl, rfl, rfl, rfl, rfl⟩ rfl rfl rfl rfl rfl (by kernel_rfl) Tryz.func5 (by kernel_rfl)
    (of_decide_eq_true (by kernel_rfl)) (by unfold Func.isWrapper; first | (rw [if_pos (by decide +kernel)]; kernel_rfl) | (rw [if_neg (by decide +kernel)]; exact ⟨rfl, rfl⟩))
    (fun os started H enc _ => fnExactShareGreen_lifted os started H enc)
theorem fnExactShareGreen_plain (f : FuncId) (fn : Func) (hf : Tryz.pinned.checked.prog.funcNamed "loop.example/g03006/laws.FnExactShareGreen" = some f) (hfn : Tryz.pinned.checked.prog.funcs[f]? = some fn) :
    false = Tryz.pinned.checked.prog.looks [] ∧ ∀ (j : Nat) t, fn.params[j]? = some t → Tryz.pinned.checked.prog.wantsStandIn t = false := by
  obtain rfl : f = 5 := Option.some.inj ((show Tryz.prog.funcNamed "loop.example/g03006/laws.FnExactShareGreen" = some 5 by kernel_rfl).symm.trans hf) |>.symm
  obtain rfl : fn = Tryz.f5 := (Option.some.inj (Tryz.func5.symm.trans hfn)).symm
  refine ⟨by kernel_rfl, fun j t ht => ?_⟩
  have h : (Tryz.f5.params.all fun t => !Tryz.pinned.checked.prog.wantsStandIn t) = true := by kernel_rfl
  simpa using Array.all_eq_true_iff_forall_mem.1 h t (Array.mem_of_getElem? ht)
theorem fnExactShareGreen_holds : Rows.FnExactShareGreenCardSaid :=
  Claim7.holds_tied_plain_at .later [] _ _ _ _ fnExactShareGreen_said (fun _ h => by cases h) (by kernel_rfl) (fun _ h => by cases h) fnExactShareGreen_row_tie rfl ⟨rfl, rfl⟩ (by kernel_rfl) rfl fnExactShareGreen_plain (by kernel_rfl)
#print axioms fnExactShareGreen_holds
end Go.Proofs.YtlpkafhapmkkfaaGreatDoor
