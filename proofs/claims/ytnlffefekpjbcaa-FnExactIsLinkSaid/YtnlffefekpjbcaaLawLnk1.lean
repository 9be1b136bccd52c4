/- Chapter 23's functions as their exact laws meet them. -/
import Derived.Test.YtnlffefekpjbcaaLnkI
namespace Go.Proofs.Ytnlffefekpjbcaa
open Go.RowKit
set_option linter.unusedVariables false

theorem sp_IsLink (p0 : Lnk) (w : World) (wp0 : p0.wf) (r : Bool) (hr : isLnk p0 = r) :
    Calls Try.prog 15 #[p0.val] w fun e w' => e = .returned (.bool r) ∧ Below w.heap.size w w' := by
  subst hr
  exact spec_IsLink p0 w
theorem im_IsLink (p0 : Lnk) (w : World) (wp0 : p0.wf) (r : Bool) (hr : isLnk p0 = r) :
    Calls Try.prog 17 #[p0.val] w fun e w' => e = .returned (.bool r) ∧ Below w.heap.size w w' := by
  subst hr
  exact impl_IsLink p0 w
theorem sp_HearLink (p0 : Lnk) (a1 : Int) (a2 : Int) (a3 : Int) (w : World) (wp0 : p0.wf) (wa1 : (Lit.int .i64 a1).wf = true) (wa2 : (Lit.int .i64 a2).wf = true) (wa3 : (Lit.int .i64 a3).wf = true) (r0 : Lnk) (r1 : Bool) (hr : hearL p0 a1 a2 a3 = (r0, r1)) :
    Calls Try.prog 18 #[p0.val, .int .i64 a1, .int .i64 a2, .int .i64 a3] w fun e w' => e = .returned (.tuple #[r0.val, .bool r1]) ∧ Below w.heap.size w w' := by
  obtain rfl : (hearL p0 a1 a2 a3).1 = r0 := by rw [hr]
  obtain rfl : (hearL p0 a1 a2 a3).2 = r1 := by rw [hr]
  clear hr
  exact spec_HearLink p0 a1 a2 a3 w
theorem im_HearLink (p0 : Lnk) (a1 : Int) (a2 : Int) (a3 : Int) (w : World) (wp0 : p0.wf) (wa1 : (Lit.int .i64 a1).wf = true) (wa2 : (Lit.int .i64 a2).wf = true) (wa3 : (Lit.int .i64 a3).wf = true) (r0 : Lnk) (r1 : Bool) (hr : hearL p0 a1 a2 a3 = (r0, r1)) :
    Calls Try.prog 19 #[p0.val, .int .i64 a1, .int .i64 a2, .int .i64 a3] w fun e w' => e = .returned (.tuple #[r0.val, .bool r1]) ∧ Below w.heap.size w w' := by
  obtain rfl : (hearL p0 a1 a2 a3).1 = r0 := by rw [hr]
  obtain rfl : (hearL p0 a1 a2 a3).2 = r1 := by rw [hr]
  clear hr
  exact impl_HearLink p0 a1 a2 a3 w
theorem sp_LinkState (p0 : Lnk) (a1 : Int) (w : World) (wp0 : p0.wf) (wa1 : (Lit.int .i64 a1).wf = true) (r : Int) (hr : lkS p0 a1 = r) :
    Calls Try.prog 21 #[p0.val, .int .i64 a1] w fun e w' => e = .returned (.int .i64 r) ∧ Below w.heap.size w w' := by
  subst hr
  exact spec_LinkState p0 a1 w
theorem im_LinkState (p0 : Lnk) (a1 : Int) (w : World) (wp0 : p0.wf) (wa1 : (Lit.int .i64 a1).wf = true) (r : Int) (hr : lkS p0 a1 = r) :
    Calls Try.prog 22 #[p0.val, .int .i64 a1] w fun e w' => e = .returned (.int .i64 r) ∧ Below w.heap.size w w' := by
  subst hr
  exact impl_LinkState p0 a1 w
end Go.Proofs.Ytnlffefekpjbcaa
