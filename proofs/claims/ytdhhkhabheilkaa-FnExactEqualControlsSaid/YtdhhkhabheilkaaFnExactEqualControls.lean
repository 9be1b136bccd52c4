/- 'FnExactEqualControls' answers true at every input, and its arguments read afterwards as before. No condition beyond the statement's own. -/
import Derived.Test.YtdhhkhabheilkaaBndlA
import Derived.Test.YtdhhkhabheilkaaExEqualControls
namespace Go.Proofs.Ytdhhkhabheilkaa
open Go.ChangeShapes Go.WideShapes Go.ChangeAt Go.RowKit Go.ChangeMaps
set_option linter.unusedVariables false
set_option maxRecDepth 100000 in
theorem fnExactEqualControls_walk (W : World) (base : Nat) (args : Array Value) {H : Type} {enc : TypeId × Value → H} (ds : List (DataW H)) (ps : List MemPlace)
    (hval : ∀ (j : Nat) t v, Try.f3.params[j]? = some t → args[j]? = some v → Value.okWide Try.prog W .any base t v)
    (hA : DataW.TrodAll enc Try.prog W 0 (fun _ => true) true Try.f3.params.toList args.toList ds ps) (hlt : ∀ x ∈ ps, x.block < W.heap.size) (hz : W.noneFrozen ps) :
    Calls Try.prog 3 args W fun e W' => e = .returned (.bool true) ∧ Below W.heap.size W W' := by
  rw [Try.params3] at hA hval
  obtain ⟨v0, vs0, d0, ds0, p0, q0, hargs, rfl, rfl, h0, r0⟩ := trodAll_cons hA
  obtain ⟨v1, vs1, d1, ds1, p1, q1, rfl, rfl, rfl, h1, r1⟩ := trodAll_cons r0
  obtain ⟨rfl, rfl, rfl⟩ := trodAll_nil r1
  obtain rfl : args = #[v0, v1] := by cases args; simp_all
  have hlt0 : ∀ x ∈ p0, x.block < W.heap.size := fun x hx => hlt x (by simp [hx])
  have hlt1 : ∀ x ∈ p1, x.block < W.heap.size := fun x hx => hlt x (by simp [hx])
  obtain ⟨A0, n0, c0, zs0, B0, m0, d0, ys0, x0_0, x0_1, rfl, f0, g0, u0, v0_⟩ := arg_ctl Try.underlying24 (by kernel_rfl) (by kernel_rfl) Try.underlying22 Try.underlying3 Try.underlying22 Try.underlying3 Try.underlying3 (by kernel_rfl) (hval 0 24 v0 rfl rfl) h0 hlt0
  obtain ⟨A1, n1, c1, zs1, B1, m1, d1, ys1, x1_0, x1_1, rfl, f1, g1, u1, v1_⟩ := arg_ctl Try.underlying24 (by kernel_rfl) (by kernel_rfl) Try.underlying22 Try.underlying3 Try.underlying22 Try.underlying3 Try.underlying3 (by kernel_rfl) (hval 1 24 v1 rfl rfl) h1 hlt1
  exact walk_FnExactEqualControls W A0 n0 c0 zs0 B0 m0 d0 ys0 x0_0 x0_1 f0 g0 u0 v0_ A1 n1 c1 zs1 B1 m1 d1 ys1 x1_0 x1_1 f1 g1 u1 v1_
set_option maxRecDepth 100000 in
theorem fnExactEqualControls_lifted (os : Os) (started : os.Started) (H : Type) (enc : TypeId × Value → H) :
    ReturnsInHanded {} Try.checked os 3 .any (Rows.fnExactEqualControlsSpec.pre6 enc Try.prog Try.f3 Rows.fnExactEqualControlsRow.domain false) (Rows.fnExactEqualControlsSpec.post enc Try.prog Try.f3 false true false false) :=
  law_lifted (C := Try.checked) (tb := 4) knobless started (by kernel_rfl) Try.func3
    (ChangeSpec.witness6 (enc := enc) (C := Try.checked) false ⟨#[], #[.agg #[.slice none 0 0, .int .i64 0, .slice none 0 0, .int .i64 0], .agg #[.slice none 0 0, .int .i64 0, .slice none 0 0, .int .i64 0]], []⟩ 8 (by kernel_rfl) (by kernel_rfl) (by kernel_rfl) (by kernel_rfl))
    rfl (by kernel_rfl) Try.underlying4 laidOutAll (by kernel_rfl) (fun ds h => match ds, h with | [_, _], _ => rfl)
    (fun W base args ds ps hval hA hlt hz => fnExactEqualControls_walk W base args ds ps hval hA hlt hz)
theorem fnExactEqualControls_holds : Rows.FnExactEqualControlsSaid :=
  OpenClaim.holds_of_wide 3 Try.f3 rfl rfl rfl rfl rfl rfl rfl ⟨rfl, rfl, rfl, rfl, rfl⟩ rfl rfl rfl rfl rfl (by kernel_rfl) Try.func3 (by kernel_rfl)
    (of_decide_eq_true (by kernel_rfl)) (by unfold Func.isWrapper; first | (rw [if_pos (by decide +kernel)]; kernel_rfl) | (rw [if_neg (by decide +kernel)]; exact ⟨rfl, rfl⟩))
    (fun os started H enc _ => fnExactEqualControls_lifted os started H enc)
#print axioms fnExactEqualControls_holds
end Go.Proofs.Ytdhhkhabheilkaa
