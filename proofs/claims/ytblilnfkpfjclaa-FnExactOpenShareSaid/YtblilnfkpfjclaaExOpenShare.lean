/- The walk of 'FnExactOpenShare'. -/
import Derived.Test.YtblilnfkpfjclaaBndlB
namespace Go.Proofs.Ytblilnfkpfjclaa
open Go.RowKit
set_option linter.unusedVariables false

set_option maxHeartbeats 4000000 in
set_option maxRecDepth 100000 in
theorem walk_FnExactOpenShare (W : World) (A0 : Option Addr) (n0 c0 : Nat) (zs0 : List Ent) (ha0 : EntsAt W W.heap.size A0 n0 zs0 ∧ (∀ z ∈ zs0, z.wf) ∧ n0 ≤ c0 ∧ c0 ≤ maxLen) (a1 : Int) (wa1 : (Lit.int .i64 a1).wf = true) (a2 : Int) (wa2 : (Lit.int .i64 a2).wf = true) :
    Calls Try.prog 4 #[.slice A0 n0 c0, .int .i64 a1, .int .i64 a2] W fun e w' => e = .returned (.bool true) ∧ Below W.heap.size W w' := by
  have hm0 := Nat.le_trans ha0.2.2.1 ha0.2.2.2
  unfold maxLen at hm0
  obtain ⟨hi0, hw0, -, -⟩ := ha0
  obtain ⟨r0, hr⟩ : ∃ r0, openS zs0 a1 a2 = r0 := ⟨_, rfl⟩
  have HR := Lib.hid hr
  clear hr
  have acc := Below.refl W.heap.size W
  go_enter Try.func4, Try.ntmps4
  have hg0 : ∀ j, j < n0 → (entA zs0 j).lights.length ≤ 9223372036854775807 := fun j hj => by
    have hl := hi0.1
    have hz := (hw0 _ (entA_mem (k := j) (by omega))).1
    unfold maxLen at hz
    omega
  go_wp2_with fail
  refine (sz_ent A0 n0 c0 W.heap.size zs0 1048576 _ (hi0.keep acc) acc.size (by omega) hg0 ⟨by omega, by omega⟩).mono ?_
  rintro e wz0 ⟨⟨q0, rfl, hq0⟩, hb⟩
  replace acc := acc.trans (hb.mono acc.size)
  clear hb
  clear hg0
  rcases hq0 with hq0 | ⟨hqa0, hqb0, hqc0, hqd0⟩
  · go_wp2
    go_ret
    exact ⟨rfl, acc⟩
  have hb0 : n0 ≤ 1048576 := by omega
  have hsm0 : SmallEnt zs0 := ⟨by have := hi0.1; omega, fun j hj => by have := hqd0 j (by have := hi0.1; omega); omega⟩
  have hlz0 := hi0.1.symm
  have HLZ0 := Lib.hid hlz0
  clear hqd0 hlz0
  go_wp2_with fail
  refine (to_ent A0 n0 c0 W.heap.size zs0 _ (hi0.keep acc) acc.size (by omega) (hsm0.at n0 _ HLZ0.out (by decide))).mono ?_
  rintro e w1 ⟨rfl, ⟨us_t1, ho⟩, hb⟩
  have lo_t1 := Lib.hid acc.size
  replace acc := acc.trans (hb.mono acc.size)
  clear hb
  have t1 := OwEnt.new ho
  clear ho
  go_wp2_with fail
  refine (sp_OpenShare _ n0 _ zs0 a1 a2 _ (t1.sl hw0) hsm0 wa1 wa2 r0 HR.out).mono ?_
  rintro e w2 ⟨rfl, hb⟩
  replace t1 := t1.below hb
  replace acc := acc.trans (hb.mono acc.size)
  clear hb
  clear t1
  go_wp2_with fail
  refine (to_ent A0 n0 c0 W.heap.size zs0 _ (hi0.keep acc) acc.size (by omega) (hsm0.at n0 _ HLZ0.out (by decide))).mono ?_
  rintro e w3 ⟨rfl, ⟨us_t2, ho⟩, hb⟩
  have lo_t2 := Lib.hid acc.size
  replace acc := acc.trans (hb.mono acc.size)
  clear hb
  have t2 := OwEnt.new ho
  clear ho
  go_wp2_with fail
  refine (im_OpenShare _ n0 _ zs0 a1 a2 _ (t2.sl hw0) hsm0 wa1 wa2 r0 HR.out).mono ?_
  rintro e w4 ⟨rfl, hb⟩
  replace t2 := t2.below hb
  replace acc := acc.trans (hb.mono acc.size)
  clear hb
  go_wp2_with fail
  refine (to_ent A0 n0 c0 W.heap.size zs0 _ (hi0.keep acc) acc.size (by omega) (hsm0.at n0 _ HLZ0.out (by decide))).mono ?_
  rintro e w5 ⟨rfl, ⟨us_t3, ho⟩, hb⟩
  have lo_t3 := Lib.hid acc.size
  have d_t2_t3 := Lib.hid t2.top
  replace t2 := t2.below hb
  replace acc := acc.trans (hb.mono acc.size)
  clear hb
  have t3 := OwEnt.new ho
  clear ho
  go_wp2_with fail
  refine (eqs_ent _ _ _ zs0 _ _ _ _ t2.ints t3.ints (by omega) (by omega) (hsm0.at _ _ HLZ0.out (by decide)) ).mono ?_
  rintro e w6 ⟨rfl, hb⟩
  replace t2 := t2.below hb
  replace t3 := t3.below hb
  replace acc := acc.trans (hb.mono acc.size)
  clear hb
  clear t3
  go_wp2
  go_ret
  exact ⟨rfl, acc⟩
end Go.Proofs.Ytblilnfkpfjclaa
