/- Chapter 3 as its exact laws meet it. -/
import Derived.Test.YtglgmikeancimaaStream
namespace Go.Proofs.Ytglgmikeancimaa
open Go.RowKit
set_option linter.unusedVariables false

theorem sp_Hash (A : Option Addr) (n c : Nat) (vs : List Int) (w : World) (h : Sl .i64 w A n c vs) (hs : n ≤ 1048576) (r : Int) (hr : hashI vs = r) :
    Calls Try.prog 14 #[.slice A n c] w fun e w' => e = .returned (.int .i64 r) ∧ Below w.heap.size w w' :=
  (spec_Hash A n c _ vs w h.ints (by omega)).mono fun e w' ⟨h1, h2⟩ => ⟨hr ▸ h1, h2 ▸ Below.refl _ _⟩
theorem im_Hash (A : Option Addr) (n c : Nat) (vs : List Int) (w : World) (h : Sl .i64 w A n c vs) (hs : n ≤ 1048576) (r : Int) (hr : hashI vs = r) :
    Calls Try.prog 16 #[.slice A n c] w fun e w' => e = .returned (.int .i64 r) ∧ Below w.heap.size w w' :=
  (impl_Hash A n c _ vs w h.ints (by omega)).mono fun e w' ⟨h1, h2⟩ => ⟨hr ▸ h1, h2 ▸ Below.refl _ _⟩
theorem sp_KeyedHash (a : Int) (A : Option Addr) (n c : Nat) (vs : List Int) (w : World) (wa : (Lit.int .i64 a).wf = true) (h : Sl .i64 w A n c vs) (hs : n ≤ 1048576) (r : Int) (hr : khash a vs = r) :
    Calls Try.prog 18 #[.int .i64 a, .slice A n c] w fun e w' => e = .returned (.int .i64 r) ∧ Below w.heap.size w w' :=
  (spec_KeyedHash a A n c _ vs w h.ints h.bare (Nat.le_refl _) (by omega)).mono fun e w' ⟨h1, h2⟩ => ⟨hr ▸ h1, h2⟩
theorem im_KeyedHash (a : Int) (A : Option Addr) (n c : Nat) (vs : List Int) (w : World) (wa : (Lit.int .i64 a).wf = true) (h : Sl .i64 w A n c vs) (hs : n ≤ 1048576) (r : Int) (hr : khash a vs = r) :
    Calls Try.prog 19 #[.int .i64 a, .slice A n c] w fun e w' => e = .returned (.int .i64 r) ∧ Below w.heap.size w w' :=
  (impl_KeyedHash a A n c _ vs w h.ints (by omega)).mono fun e w' ⟨h1, h2⟩ => ⟨hr ▸ h1, h2 ▸ Below.refl _ _⟩
theorem sp_BytesToInts (A : Option Addr) (n c : Nat) (zs : List Int) (w : World) (h : Sl .u8 w A n c zs) (hs : n ≤ 1048576) (r : List Int) (hr : toNums zs = r) :
    Calls Try.prog 20 #[.slice A n c] w fun e w' => ∃ v, e = .returned v ∧ Own .i64 3 w' w.heap.size v r ∧ Below w.heap.size w w' ∧ r.length ≤ 4398046511104 := by
  have := h.len
  exact (spec_BytesToInts A n c _ zs w ⟨h.ints, h.u8⟩ (Nat.le_refl _) (by omega)).mono fun e w' ⟨v, h1, h2, h3⟩ => ⟨v, h1, hr ▸ h2, h3, by rw [← hr]; simp [toNums]; omega⟩
theorem sp_Encrypt (a : Int) (A : Option Addr) (n c : Nat) (zs : List Int) (w : World) (wa : (Lit.int .i64 a).wf = true) (h : Sl .u8 w A n c zs) (hs : n ≤ 1048576) (r : List Int) (hr : encr a zs = r) :
    Calls Try.prog 27 #[.int .i64 a, .slice A n c] w fun e w' => ∃ v, e = .returned v ∧ Own .u8 5 w' w.heap.size v r ∧ Below w.heap.size w w' ∧ r.length ≤ 4398046511104 := by
  have := h.len
  exact (spec_Encrypt a A n c _ zs w ⟨h.ints, h.u8⟩ (Nat.le_refl _) (by omega)).mono fun e w' ⟨v, h1, h2, h3⟩ => ⟨v, h1, hr ▸ h2, h3, by rw [← hr, encr_length]; omega⟩
theorem sp_Decrypt (a : Int) (A : Option Addr) (n c : Nat) (zs : List Int) (w : World) (wa : (Lit.int .i64 a).wf = true) (h : Sl .u8 w A n c zs) (hs : n ≤ 1048576) (r : List Int) (hr : decr a zs = r) :
    Calls Try.prog 29 #[.int .i64 a, .slice A n c] w fun e w' => ∃ v, e = .returned v ∧ Own .u8 5 w' w.heap.size v r ∧ Below w.heap.size w w' ∧ r.length ≤ 4398046511104 := by
  have := h.len
  exact (spec_Decrypt a A n c _ zs w ⟨h.ints, h.u8⟩ (Nat.le_refl _) (by omega)).mono fun e w' ⟨v, h1, h2, h3⟩ => ⟨v, h1, hr ▸ h2, h3, by rw [← hr, decr_length]; omega⟩
theorem im_BytesToInts (A : Option Addr) (n c : Nat) (zs : List Int) (w : World) (h : Sl .u8 w A n c zs) (hs : n ≤ 1048576) (r : List Int) (hr : toNums zs = r) :
    Calls Try.prog 22 #[.slice A n c] w fun e w' => ∃ v, e = .returned v ∧ Own .i64 3 w' w.heap.size v r ∧ Below w.heap.size w w' ∧ r.length ≤ 4398046511104 := by
  have := h.len
  exact (impl_BytesToInts A n c _ zs w ⟨h.ints, h.u8⟩ (Nat.le_refl _) (by omega)).mono fun e w' ⟨v, h1, h2, h3⟩ => ⟨v, h1, hr ▸ h2, h3, by rw [← hr]; simp [toNums]; omega⟩
theorem im_Encrypt (a : Int) (A : Option Addr) (n c : Nat) (zs : List Int) (w : World) (wa : (Lit.int .i64 a).wf = true) (h : Sl .u8 w A n c zs) (hs : n ≤ 1048576) (r : List Int) (hr : encr a zs = r) :
    Calls Try.prog 13 #[.int .i64 a, .slice A n c] w fun e w' => ∃ v, e = .returned v ∧ Own .u8 5 w' w.heap.size v r ∧ Below w.heap.size w w' ∧ r.length ≤ 4398046511104 := by
  have := h.len
  exact (impl_Encrypt a A n c _ zs w ⟨h.ints, h.u8⟩ (Nat.le_refl _) (by omega)).mono fun e w' ⟨v, h1, h2, h3⟩ => ⟨v, h1, hr ▸ h2, h3, by rw [← hr, encr_length]; omega⟩
theorem im_Decrypt (a : Int) (A : Option Addr) (n c : Nat) (zs : List Int) (w : World) (wa : (Lit.int .i64 a).wf = true) (h : Sl .u8 w A n c zs) (hs : n ≤ 1048576) (r : List Int) (hr : decr a zs = r) :
    Calls Try.prog 12 #[.int .i64 a, .slice A n c] w fun e w' => ∃ v, e = .returned v ∧ Own .u8 5 w' w.heap.size v r ∧ Below w.heap.size w w' ∧ r.length ≤ 4398046511104 := by
  have := h.len
  exact (impl_Decrypt a A n c _ zs w ⟨h.ints, h.u8⟩ (Nat.le_refl _) (by omega)).mono fun e w' ⟨v, h1, h2, h3⟩ => ⟨v, h1, hr ▸ h2, h3, by rw [← hr, decr_length]; omega⟩
end Go.Proofs.Ytglgmikeancimaa
