/- Chapter 10 as its exact laws meet it. -/
import Derived.Test.YtgdficjihkglpaaDemM
import Derived.Test.YtgdficjihkglpaaDemI
import Derived.Test.YtgdficjihkglpaaDemA
import Derived.Test.YtgdficjihkglpaaPthM
namespace Go.Proofs.Ytgdficjihkglpaa
open Go.RowKit
set_option linter.unusedVariables false

theorem sp_LowDemand (A0 : Option Addr) (n0 c0 : Nat) (zs0 : List Det) (a1 : Int) (w : World) (h0 : SlT w A0 n0 c0 zs0) (hs0 : n0 ≤ 1048576) (wa1 : (Lit.int .i64 a1).wf = true) (r : Int) (hr : lowD zs0 a1 = r) :
    Calls Try.prog 34 #[.slice A0 n0 c0, .int .i64 a1] w fun e w' => e = .returned (.int .i64 r) ∧ Below w.heap.size w w' := by
  subst hr
  exact spec_LowDemand A0 n0 c0 _ zs0 a1 w h0.pths (Nat.le_refl _) (by omega)
theorem im_LowDemand (A0 : Option Addr) (n0 c0 : Nat) (zs0 : List Det) (a1 : Int) (w : World) (h0 : SlT w A0 n0 c0 zs0) (hs0 : n0 ≤ 1048576) (wa1 : (Lit.int .i64 a1).wf = true) (r : Int) (hr : lowD zs0 a1 = r) :
    Calls Try.prog 35 #[.slice A0 n0 c0, .int .i64 a1] w fun e w' => e = .returned (.int .i64 r) ∧ Below w.heap.size w w' := by
  subst hr
  exact impl_LowDemand A0 n0 c0 _ zs0 a1 w h0.pths (Nat.le_refl _) (by omega)
theorem sp_HighDemand (A0 : Option Addr) (n0 c0 : Nat) (zs0 : List Det) (a1 : Int) (w : World) (h0 : SlT w A0 n0 c0 zs0) (hs0 : n0 ≤ 1048576) (wa1 : (Lit.int .i64 a1).wf = true) (r : Int) (hr : highD zs0 a1 = r) :
    Calls Try.prog 36 #[.slice A0 n0 c0, .int .i64 a1] w fun e w' => e = .returned (.int .i64 r) ∧ Below w.heap.size w w' := by
  subst hr
  exact spec_HighDemand A0 n0 c0 _ zs0 a1 w h0.pths (Nat.le_refl _) (by omega)
theorem im_HighDemand (A0 : Option Addr) (n0 c0 : Nat) (zs0 : List Det) (a1 : Int) (w : World) (h0 : SlT w A0 n0 c0 zs0) (hs0 : n0 ≤ 1048576) (wa1 : (Lit.int .i64 a1).wf = true) (r : Int) (hr : highD zs0 a1 = r) :
    Calls Try.prog 37 #[.slice A0 n0 c0, .int .i64 a1] w fun e w' => e = .returned (.int .i64 r) ∧ Below w.heap.size w w' := by
  subst hr
  exact impl_HighDemand A0 n0 c0 _ zs0 a1 w h0.pths (Nat.le_refl _) (by omega)
theorem sp_StageDemand (A0 : Option Addr) (n0 c0 : Nat) (zs0 : List Det) (A1 : Option Addr) (n1 c1 : Nat) (zs1 : List Int) (w : World) (h0 : SlT w A0 n0 c0 zs0) (hs0 : n0 ≤ 1048576) (h1 : Sl .i64 w A1 n1 c1 zs1) (hs1 : n1 ≤ 1048576) (r : Int) (hr : stgD zs0 zs1 = r) :
    Calls Try.prog 38 #[.slice A0 n0 c0, .slice A1 n1 c1] w fun e w' => e = .returned (.int .i64 r) ∧ Below w.heap.size w w' := by
  subst hr
  exact spec_StageDemand A0 n0 c0 _ zs0 A1 n1 c1 _ zs1 w h0.pths h1.ints (Nat.le_refl _) (Nat.le_refl _) (by omega) (by omega)
theorem im_StageDemand (A0 : Option Addr) (n0 c0 : Nat) (zs0 : List Det) (A1 : Option Addr) (n1 c1 : Nat) (zs1 : List Int) (w : World) (h0 : SlT w A0 n0 c0 zs0) (hs0 : n0 ≤ 1048576) (h1 : Sl .i64 w A1 n1 c1 zs1) (hs1 : n1 ≤ 1048576) (r : Int) (hr : stgD zs0 zs1 = r) :
    Calls Try.prog 39 #[.slice A0 n0 c0, .slice A1 n1 c1] w fun e w' => e = .returned (.int .i64 r) ∧ Below w.heap.size w w' := by
  subst hr
  exact impl_StageDemand A0 n0 c0 _ zs0 A1 n1 c1 _ zs1 w h0.pths h1.ints (Nat.le_refl _) (Nat.le_refl _) (by omega) (by omega) ⟨h1.cap.1, by have := h1.cap.2; unfold maxLen at *; omega⟩
theorem sp_AreDetectors (A0 : Option Addr) (n0 c0 : Nat) (zs0 : List Pth) (A1 : Option Addr) (n1 c1 : Nat) (zs1 : List Det) (w : World) (h0 : SlP w A0 n0 c0 zs0) (hs0 : n0 ≤ 1048576) (h1 : SlT w A1 n1 c1 zs1) (hs1 : n1 ≤ 1048576) (r : Bool) (hr : areD zs0 zs1 = r) :
    Calls Try.prog 27 #[.slice A0 n0 c0, .slice A1 n1 c1] w fun e w' => e = .returned (.bool r) ∧ Below w.heap.size w w' := by
  subst hr
  exact spec_AreDetectors A0 n0 c0 _ zs0 A1 n1 c1 _ zs1 w h0.pths h1.pths (Nat.le_refl _) (Nat.le_refl _) (by omega) (by omega)
theorem im_AreDetectors (A0 : Option Addr) (n0 c0 : Nat) (zs0 : List Pth) (A1 : Option Addr) (n1 c1 : Nat) (zs1 : List Det) (w : World) (h0 : SlP w A0 n0 c0 zs0) (hs0 : n0 ≤ 1048576) (h1 : SlT w A1 n1 c1 zs1) (hs1 : n1 ≤ 1048576) (r : Bool) (hr : areD zs0 zs1 = r) :
    Calls Try.prog 29 #[.slice A0 n0 c0, .slice A1 n1 c1] w fun e w' => e = .returned (.bool r) ∧ Below w.heap.size w w' := by
  subst hr
  exact impl_AreDetectors A0 n0 c0 _ zs0 A1 n1 c1 _ zs1 w h0.pths h1.pths (Nat.le_refl _) (Nat.le_refl _) (by omega) (by omega)
theorem blindP_len (ps : List Pth) (ds : List Det) : (blindP ps ds).length ≤ ps.length := by
  unfold blindP
  rw [List.length_map]
  exact List.length_filter_le _ _
theorem sp_BlindPaths (A0 : Option Addr) (n0 c0 : Nat) (zs0 : List Pth) (A1 : Option Addr) (n1 c1 : Nat) (zs1 : List Det) (w : World) (h0 : SlP w A0 n0 c0 zs0) (hs0 : n0 ≤ 1048576) (h1 : SlT w A1 n1 c1 zs1) (hs1 : n1 ≤ 1048576) (r0 : List Int) (hr : blindP zs0 zs1 = r0) :
    Calls Try.prog 40 #[.slice A0 n0 c0, .slice A1 n1 c1] w fun e w' => ∃ v0, e = .returned v0 ∧ Own .i64 3 w' w.heap.size v0 r0 ∧ Below w.heap.size w w' ∧ r0.length ≤ 1048576 := by
  subst hr
  refine (spec_BlindPaths A0 n0 c0 _ zs0 A1 n1 c1 _ zs1 w h0.pths h1.pths (Nat.le_refl _) (Nat.le_refl _) (by omega) (by omega)).mono ?_
  rintro e w' ⟨v, he, ho, hb⟩
  exact ⟨v, he, ho, hb, by have := blindP_len zs0 zs1; have := h0.len; omega⟩
theorem im_BlindPaths (A0 : Option Addr) (n0 c0 : Nat) (zs0 : List Pth) (A1 : Option Addr) (n1 c1 : Nat) (zs1 : List Det) (w : World) (h0 : SlP w A0 n0 c0 zs0) (hs0 : n0 ≤ 1048576) (h1 : SlT w A1 n1 c1 zs1) (hs1 : n1 ≤ 1048576) (r0 : List Int) (hr : blindP zs0 zs1 = r0) :
    Calls Try.prog 41 #[.slice A0 n0 c0, .slice A1 n1 c1] w fun e w' => ∃ v0, e = .returned v0 ∧ Own .i64 3 w' w.heap.size v0 r0 ∧ Below w.heap.size w w' ∧ r0.length ≤ 1048576 := by
  subst hr
  refine (impl_BlindPaths A0 n0 c0 _ zs0 A1 n1 c1 _ zs1 w h0.pths h1.pths (Nat.le_refl _) (Nat.le_refl _) (by omega) (by omega)).mono ?_
  rintro e w' ⟨v, he, ho, hb⟩
  exact ⟨v, he, ho, hb, by have := blindP_len zs0 zs1; have := h0.len; omega⟩
end Go.Proofs.Ytgdficjihkglpaa
