/- The walk of 'FnExactKeyedHash'. -/
import Derived.Test.YtglgmikeancimaaLawHash
namespace Go.Proofs.Ytglgmikeancimaa
open Go.RowKit
set_option linter.unusedVariables false

set_option maxHeartbeats 4000000 in
set_option maxRecDepth 100000 in
theorem walk_FnExactKeyedHash (W : World) (a0 : Int) (wa0 : (Lit.int .i64 a0).wf = true) (A1 : Option Addr) (n1 c1 : Nat) (zs1 : List Int) (ha1 : IntsAt .i64 W W.heap.size A1 n1 zs1 ∧ (∀ z ∈ zs1, (Lit.int .i64 z).wf = true) ∧ n1 ≤ c1 ∧ c1 ≤ maxLen) :
    Calls Try.prog 5 #[.int .i64 a0, .slice A1 n1 c1] W fun e w' => e = .returned (.bool true) ∧ Below W.heap.size W w' := by
  by_cases hb1 : n1 ≤ 1048576
  rotate_left
  · go_enter Try.func5, Try.ntmps5
    go_wp2
    go_ret
    exact ⟨rfl, Below.refl _ _⟩
  obtain ⟨hi1, hw1, -, -⟩ := ha1
  obtain ⟨r0, hr⟩ : ∃ r0, khash a0 zs1 = r0 := ⟨_, rfl⟩
  have HR := Lib.hid hr
  clear hr
  have acc := Below.refl W.heap.size W
  go_enter Try.func5, Try.ntmps5
  go_wp2_with fail
  refine (to_i64 A1 n1 c1 W.heap.size zs1 _ (hi1.keep fun _ hp => acc.cell hp) acc.size (by omega)).mono ?_
  rintro e w1 ⟨rfl, ho, hb⟩
  have lo_t1 := Lib.hid acc.size
  replace acc := acc.trans (hb.mono acc.size)
  clear hb
  have t1 := Ow.new ho
  clear ho
  go_wp2_with fail
  refine (sp_KeyedHash a0 _ n1 _ zs1 _ wa0 (t1.sl (by omega) hw1) hb1 r0 HR.out).mono ?_
  rintro e w2 ⟨rfl, hb⟩
  replace t1 := t1.below hb
  replace acc := acc.trans (hb.mono acc.size)
  clear hb
  clear t1
  go_wp2_with fail
  refine (to_i64 A1 n1 c1 W.heap.size zs1 _ (hi1.keep fun _ hp => acc.cell hp) acc.size (by omega)).mono ?_
  rintro e w3 ⟨rfl, ho, hb⟩
  have lo_t2 := Lib.hid acc.size
  replace acc := acc.trans (hb.mono acc.size)
  clear hb
  have t2 := Ow.new ho
  clear ho
  go_wp2_with fail
  refine (im_KeyedHash a0 _ n1 _ zs1 _ wa0 (t2.sl (by omega) hw1) hb1 r0 HR.out).mono ?_
  rintro e w4 ⟨rfl, hb⟩
  replace t2 := t2.below hb
  replace acc := acc.trans (hb.mono acc.size)
  clear hb
  go_wp2_with fail
  refine (to_i64 A1 n1 c1 W.heap.size zs1 _ (hi1.keep fun _ hp => acc.cell hp) acc.size (by omega)).mono ?_
  rintro e w5 ⟨rfl, ho, hb⟩
  have lo_t3 := Lib.hid acc.size
  have d_t2_t3 := Lib.hid t2.top
  replace t2 := t2.below hb
  replace acc := acc.trans (hb.mono acc.size)
  clear hb
  have t3 := Ow.new ho
  clear ho
  go_wp2_with fail
  refine (eqs_i64 _ _ _ zs1 _ _ _ _ t2.ints t3.ints (by omega) (by omega)).mono ?_
  rintro e w6 ⟨rfl, hb⟩
  replace t2 := t2.below hb
  replace t3 := t3.below hb
  replace acc := acc.trans (hb.mono acc.size)
  clear hb
  clear t3
  go_wp2
  go_ret
  exact ⟨rfl, acc⟩
end Go.Proofs.Ytglgmikeancimaa
