/- Chapter 2's readers of byte strings and lists as their exact laws meet them. -/
import Derived.Test.YtekpopndjcdgiaaGet5
namespace Go.Proofs.Ytekpopndjcdgiaa
open Go.RowKit
set_option linter.unusedVariables false

theorem sp_ReadBytes (A : Option Addr) (n c : Nat) (zs : List Int) (a most : Int) (w : World) (h : Sl .u8 w A n c zs) (hs : n ≤ 1048576) (wa : (Lit.int .i64 a).wf = true) (wm : (Lit.int .i64 most).wf = true) (r0 : List Int) (r1 : Int) (r2 : Bool) (hr : rdBytes zs a most = (r0, r1, r2)) :
    Calls Try.prog 33 #[.slice A n c, .int .i64 a, .int .i64 most] w fun e w' => ∃ v, e = .returned (.tuple #[v, .int .i64 r1, .bool r2]) ∧ Own .u8 5 w' w.heap.size v r0 ∧ Below w.heap.size w w' ∧ r0.length ≤ 4398046511104 := spec_ReadBytes A n c zs a most w h r0 r1 r2 hr
theorem im_ReadBytes (A : Option Addr) (n c : Nat) (zs : List Int) (a most : Int) (w : World) (h : Sl .u8 w A n c zs) (hs : n ≤ 1048576) (wa : (Lit.int .i64 a).wf = true) (wm : (Lit.int .i64 most).wf = true) (r0 : List Int) (r1 : Int) (r2 : Bool) (hr : rdBytes zs a most = (r0, r1, r2)) :
    Calls Try.prog 22 #[.slice A n c, .int .i64 a, .int .i64 most] w fun e w' => ∃ v, e = .returned (.tuple #[v, .int .i64 r1, .bool r2]) ∧ Own .u8 5 w' w.heap.size v r0 ∧ Below w.heap.size w w' ∧ r0.length ≤ 4398046511104 := impl_ReadBytes A n c zs a most w h r0 r1 r2 hr
theorem sp_DecodeInts (A : Option Addr) (n c : Nat) (zs : List Int) (a most : Int) (w : World) (h : Sl .u8 w A n c zs) (hs : n ≤ 1048576) (wa : (Lit.int .i64 a).wf = true) (wm : (Lit.int .i64 most).wf = true) (r0 : List Int) (r1 : Int) (r2 : Bool) (hr : rdInts zs a most = (r0, r1, r2)) :
    Calls Try.prog 38 #[.slice A n c, .int .i64 a, .int .i64 most] w fun e w' => ∃ v, e = .returned (.tuple #[v, .int .i64 r1, .bool r2]) ∧ Own .i64 3 w' w.heap.size v r0 ∧ Below w.heap.size w w' ∧ r0.length ≤ 4398046511104 := spec_DecodeInts A n c zs a most w h r0 r1 r2 hr
theorem im_DecodeInts (A : Option Addr) (n c : Nat) (zs : List Int) (a most : Int) (w : World) (h : Sl .u8 w A n c zs) (hs : n ≤ 1048576) (wa : (Lit.int .i64 a).wf = true) (wm : (Lit.int .i64 most).wf = true) (r0 : List Int) (r1 : Int) (r2 : Bool) (hr : rdInts zs a most = (r0, r1, r2)) :
    Calls Try.prog 25 #[.slice A n c, .int .i64 a, .int .i64 most] w fun e w' => ∃ v, e = .returned (.tuple #[v, .int .i64 r1, .bool r2]) ∧ Own .i64 3 w' w.heap.size v r0 ∧ Below w.heap.size w w' ∧ r0.length ≤ 4398046511104 := impl_DecodeInts A n c zs a most w h r0 r1 r2 hr
end Go.Proofs.Ytekpopndjcdgiaa
