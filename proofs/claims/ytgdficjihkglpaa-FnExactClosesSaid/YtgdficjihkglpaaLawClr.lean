/- Chapter 7's first functions as their exact laws meet them. -/
import Derived.Test.YtgdficjihkglpaaClrM
import Derived.Test.YtgdficjihkglpaaClrI
import Derived.Test.YtgdficjihkglpaaPthM
namespace Go.Proofs.Ytgdficjihkglpaa
open Go.RowKit
set_option linter.unusedVariables false

theorem StaysOpen_len (zs ys : List Int) : (stayL zs ys).length ≤ zs.length := List.length_filter_le _ _
theorem sp_StaysOpen (A0 : Option Addr) (n0 c0 : Nat) (zs0 : List Int) (A1 : Option Addr) (n1 c1 : Nat) (zs1 : List Int) (w : World) (h0 : Sl .i64 w A0 n0 c0 zs0) (hs0 : n0 ≤ 1048576) (h1 : Sl .i64 w A1 n1 c1 zs1) (hs1 : n1 ≤ 1048576) (r0 : List Int) (hr : stayL zs0 zs1 = r0) :
    Calls Try.prog 13 #[.slice A0 n0 c0, .slice A1 n1 c1] w fun e w' => ∃ v0, e = .returned v0 ∧ Own .i64 3 w' w.heap.size v0 r0 ∧ Below w.heap.size w w' ∧ r0.length ≤ 1048576 := by
  subst hr
  refine (spec_StaysOpen A0 n0 c0 _ zs0 A1 n1 c1 _ zs1 w h0.ints h1.ints (Nat.le_refl _) (Nat.le_refl _) (by omega) (by omega)).mono ?_
  rintro e w' ⟨v, he, ho, hb⟩
  exact ⟨v, he, ho, hb, by have := StaysOpen_len zs0 zs1; have := h0.len; omega⟩
theorem im_StaysOpen (A0 : Option Addr) (n0 c0 : Nat) (zs0 : List Int) (A1 : Option Addr) (n1 c1 : Nat) (zs1 : List Int) (w : World) (h0 : Sl .i64 w A0 n0 c0 zs0) (hs0 : n0 ≤ 1048576) (h1 : Sl .i64 w A1 n1 c1 zs1) (hs1 : n1 ≤ 1048576) (r0 : List Int) (hr : stayL zs0 zs1 = r0) :
    Calls Try.prog 15 #[.slice A0 n0 c0, .slice A1 n1 c1] w fun e w' => ∃ v0, e = .returned v0 ∧ Own .i64 3 w' w.heap.size v0 r0 ∧ Below w.heap.size w w' ∧ r0.length ≤ 1048576 := by
  subst hr
  refine (impl_StaysOpen A0 n0 c0 _ zs0 A1 n1 c1 _ zs1 w h0.ints h1.ints (Nat.le_refl _) (Nat.le_refl _) (by omega) (by omega)).mono ?_
  rintro e w' ⟨v, he, ho, hb⟩
  exact ⟨v, he, ho, hb, by have := StaysOpen_len zs0 zs1; have := h0.len; omega⟩
theorem Closes_len (zs ys : List Int) : (closL zs ys).length ≤ zs.length := List.length_filter_le _ _
theorem sp_Closes (A0 : Option Addr) (n0 c0 : Nat) (zs0 : List Int) (A1 : Option Addr) (n1 c1 : Nat) (zs1 : List Int) (w : World) (h0 : Sl .i64 w A0 n0 c0 zs0) (hs0 : n0 ≤ 1048576) (h1 : Sl .i64 w A1 n1 c1 zs1) (hs1 : n1 ≤ 1048576) (r0 : List Int) (hr : closL zs0 zs1 = r0) :
    Calls Try.prog 19 #[.slice A0 n0 c0, .slice A1 n1 c1] w fun e w' => ∃ v0, e = .returned v0 ∧ Own .i64 3 w' w.heap.size v0 r0 ∧ Below w.heap.size w w' ∧ r0.length ≤ 1048576 := by
  subst hr
  refine (spec_Closes A0 n0 c0 _ zs0 A1 n1 c1 _ zs1 w h0.ints h1.ints (Nat.le_refl _) (Nat.le_refl _) (by omega) (by omega)).mono ?_
  rintro e w' ⟨v, he, ho, hb⟩
  exact ⟨v, he, ho, hb, by have := Closes_len zs0 zs1; have := h0.len; omega⟩
theorem im_Closes (A0 : Option Addr) (n0 c0 : Nat) (zs0 : List Int) (A1 : Option Addr) (n1 c1 : Nat) (zs1 : List Int) (w : World) (h0 : Sl .i64 w A0 n0 c0 zs0) (hs0 : n0 ≤ 1048576) (h1 : Sl .i64 w A1 n1 c1 zs1) (hs1 : n1 ≤ 1048576) (r0 : List Int) (hr : closL zs0 zs1 = r0) :
    Calls Try.prog 20 #[.slice A0 n0 c0, .slice A1 n1 c1] w fun e w' => ∃ v0, e = .returned v0 ∧ Own .i64 3 w' w.heap.size v0 r0 ∧ Below w.heap.size w w' ∧ r0.length ≤ 1048576 := by
  subst hr
  refine (impl_Closes A0 n0 c0 _ zs0 A1 n1 c1 _ zs1 w h0.ints h1.ints (Nat.le_refl _) (Nat.le_refl _) (by omega) (by omega)).mono ?_
  rintro e w' ⟨v, he, ho, hb⟩
  exact ⟨v, he, ho, hb, by have := Closes_len zs0 zs1; have := h0.len; omega⟩
end Go.Proofs.Ytgdficjihkglpaa
