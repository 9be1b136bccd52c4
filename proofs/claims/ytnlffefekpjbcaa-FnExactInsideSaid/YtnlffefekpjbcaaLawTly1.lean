/- Chapter 26's functions as their exact laws meet them. -/
import Derived.Test.YtnlffefekpjbcaaTlyH
namespace Go.Proofs.Ytnlffefekpjbcaa
open Go.RowKit
set_option linter.unusedVariables false

theorem sp_IsTally (p0 : Tly) (w : World) (wp0 : p0.wf) (r : Bool) (hr : isTly p0 = r) :
    Calls Try.prog 39 #[p0.val] w fun e w' => e = .returned (.bool r) ∧ Below w.heap.size w w' := by
  subst hr
  exact spec_IsTally p0 w
theorem im_IsTally (p0 : Tly) (w : World) (wp0 : p0.wf) (r : Bool) (hr : isTly p0 = r) :
    Calls Try.prog 41 #[p0.val] w fun e w' => e = .returned (.bool r) ∧ Below w.heap.size w w' := by
  subst hr
  exact impl_IsTally p0 w
theorem sp_Inside (p0 : Tly) (w : World) (wp0 : p0.wf) (r : Int) (hr : insideT p0 = r) :
    Calls Try.prog 42 #[p0.val] w fun e w' => e = .returned (.int .i64 r) ∧ Below w.heap.size w w' := by
  subst hr
  exact spec_Inside p0 w
theorem im_Inside (p0 : Tly) (w : World) (wp0 : p0.wf) (r : Int) (hr : insideT p0 = r) :
    Calls Try.prog 43 #[p0.val] w fun e w' => e = .returned (.int .i64 r) ∧ Below w.heap.size w w' := by
  subst hr
  exact impl_Inside p0 w
theorem sp_CountIn (p0 : Tly) (a1 : Int) (w : World) (wp0 : p0.wf) (wa1 : (Lit.int .i64 a1).wf = true) (r0 : Tly) (r1 : Bool) (hr : cntIn p0 a1 = (r0, r1)) :
    Calls Try.prog 44 #[p0.val, .int .i64 a1] w fun e w' => e = .returned (.tuple #[r0.val, .bool r1]) ∧ Below w.heap.size w w' := by
  obtain rfl : (cntIn p0 a1).1 = r0 := by rw [hr]
  obtain rfl : (cntIn p0 a1).2 = r1 := by rw [hr]
  clear hr
  exact spec_CountIn p0 a1 w
theorem im_CountIn (p0 : Tly) (a1 : Int) (w : World) (wp0 : p0.wf) (wa1 : (Lit.int .i64 a1).wf = true) (r0 : Tly) (r1 : Bool) (hr : cntIn p0 a1 = (r0, r1)) :
    Calls Try.prog 45 #[p0.val, .int .i64 a1] w fun e w' => e = .returned (.tuple #[r0.val, .bool r1]) ∧ Below w.heap.size w w' := by
  obtain rfl : (cntIn p0 a1).1 = r0 := by rw [hr]
  obtain rfl : (cntIn p0 a1).2 = r1 := by rw [hr]
  clear hr
  exact impl_CountIn p0 a1 w
theorem sp_CountOut (p0 : Tly) (a1 : Int) (w : World) (wp0 : p0.wf) (wa1 : (Lit.int .i64 a1).wf = true) (r0 : Tly) (r1 : Bool) (hr : cntOut p0 a1 = (r0, r1)) :
    Calls Try.prog 47 #[p0.val, .int .i64 a1] w fun e w' => e = .returned (.tuple #[r0.val, .bool r1]) ∧ Below w.heap.size w w' := by
  obtain rfl : (cntOut p0 a1).1 = r0 := by rw [hr]
  obtain rfl : (cntOut p0 a1).2 = r1 := by rw [hr]
  clear hr
  exact spec_CountOut p0 a1 w
theorem im_CountOut (p0 : Tly) (a1 : Int) (w : World) (wp0 : p0.wf) (wa1 : (Lit.int .i64 a1).wf = true) (r0 : Tly) (r1 : Bool) (hr : cntOut p0 a1 = (r0, r1)) :
    Calls Try.prog 48 #[p0.val, .int .i64 a1] w fun e w' => e = .returned (.tuple #[r0.val, .bool r1]) ∧ Below w.heap.size w w' := by
  obtain rfl : (cntOut p0 a1).1 = r0 := by rw [hr]
  obtain rfl : (cntOut p0 a1).2 = r1 := by rw [hr]
  clear hr
  exact impl_CountOut p0 a1 w
theorem sp_CanHold (A0 : Option Addr) (n0 c0 : Nat) (zs0 : List Tly) (a1 : Int) (a2 : Int) (w : World) (h0 : SlTly w A0 n0 c0 zs0) (hs0 : n0 ≤ 1048576) (wa1 : (Lit.int .i64 a1).wf = true) (wa2 : (Lit.int .i64 a2).wf = true) (r : Bool) (hr : holdT zs0 a1 a2 = r) :
    Calls Try.prog 50 #[.slice A0 n0 c0, .int .i64 a1, .int .i64 a2] w fun e w' => e = .returned (.bool r) ∧ Below w.heap.size w w' := by
  subst hr
  exact spec_CanHold A0 n0 c0 _ zs0 a1 a2 w h0.pths (Nat.le_refl _) (by omega)
theorem im_CanHold (A0 : Option Addr) (n0 c0 : Nat) (zs0 : List Tly) (a1 : Int) (a2 : Int) (w : World) (h0 : SlTly w A0 n0 c0 zs0) (hs0 : n0 ≤ 1048576) (wa1 : (Lit.int .i64 a1).wf = true) (wa2 : (Lit.int .i64 a2).wf = true) (r : Bool) (hr : holdT zs0 a1 a2 = r) :
    Calls Try.prog 52 #[.slice A0 n0 c0, .int .i64 a1, .int .i64 a2] w fun e w' => e = .returned (.bool r) ∧ Below w.heap.size w w' := by
  subst hr
  exact impl_CanHold A0 n0 c0 _ zs0 a1 a2 w h0.pths (Nat.le_refl _) (by omega)
end Go.Proofs.Ytnlffefekpjbcaa
