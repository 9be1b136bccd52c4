/- Chapter 2's writers as its exact laws meet them. -/
import Derived.Test.YtekpopndjcdgiaaPut2
import Derived.Test.YtekpopndjcdgiaaMem
namespace Go.Proofs.Ytekpopndjcdgiaa
open Go.RowKit
set_option linter.unusedVariables false

theorem sp_AppendUvarint (A : Option Addr) (n c : Nat) (zs : List Int) (N : Int) (w : World) (h : Sl .u8 w A n c zs) (hs : n ≤ 1048576) (wN : (Lit.int .i64 N).wf = true) (r : List Int) (hr : vput zs N = r) :
    Calls Try.prog 27 #[.slice A n c, .int .i64 N] w fun e w' => ∃ v, e = .returned v ∧ Own .u8 5 w' w.heap.size v r ∧ Below w.heap.size w w' ∧ r.length ≤ 4398046511104 := by
  have hl := (vput_length zs N).1
  have := h.len
  have := h.small
  refine (spec_AppendUvarint A n c _ zs N w h.ints h.bare (Nat.le_refl _) h.small).mono fun e w' ⟨v, h1, h2, h3⟩ => ⟨v, h1, hr ▸ h2, h3, by rw [← hr]; omega⟩
theorem im_AppendUvarint (A : Option Addr) (n c : Nat) (zs : List Int) (N : Int) (w : World) (h : Sl .u8 w A n c zs) (hs : n ≤ 1048576) (wN : (Lit.int .i64 N).wf = true) (r : List Int) (hr : vput zs N = r) :
    Calls Try.prog 15 #[.slice A n c, .int .i64 N] w fun e w' => ∃ v, e = .returned v ∧ Own .u8 5 w' w.heap.size v r ∧ Below w.heap.size w w' ∧ r.length ≤ 4398046511104 := by
  have hl := (vput_length zs N).1
  have := h.len
  have := h.small
  refine (impl_AppendUvarint A n c _ zs N w h.ints h.bare (Nat.le_refl _) h.small).mono fun e w' ⟨v, h1, h2, h3⟩ => ⟨v, h1, hr ▸ h2, h3, by rw [← hr]; omega⟩
theorem sp_AppendBytes (A : Option Addr) (n c : Nat) (zs : List Int) (A2 : Option Addr) (n2 c2 : Nat) (ds : List Int) (w : World) (h : Sl .u8 w A n c zs) (hs : n ≤ 1048576) (h2 : Sl .u8 w A2 n2 c2 ds) (hs2 : n2 ≤ 1048576) (r : List Int) (hr : bput zs ds = r) :
    Calls Try.prog 32 #[.slice A n c, .slice A2 n2 c2] w fun e w' => ∃ v, e = .returned v ∧ Own .u8 5 w' w.heap.size v r ∧ Below w.heap.size w w' ∧ r.length ≤ 4398046511104 := by
  have hl := (vput_length zs ds.length).1
  have := h.len
  have := h.small
  have := h2.len
  have := h2.small
  refine (spec_AppendBytes A n c _ zs A2 n2 c2 _ ds w h.ints h.bare (Nat.le_refl _) h.small h2.ints h2.bare (Nat.le_refl _) h2.small).mono fun e w' ⟨v, h1, h2, h3⟩ => ⟨v, h1, hr ▸ h2, h3, by rw [← hr, bput, List.length_append]; omega⟩
theorem im_AppendBytes (A : Option Addr) (n c : Nat) (zs : List Int) (A2 : Option Addr) (n2 c2 : Nat) (ds : List Int) (w : World) (h : Sl .u8 w A n c zs) (hs : n ≤ 1048576) (h2 : Sl .u8 w A2 n2 c2 ds) (hs2 : n2 ≤ 1048576) (r : List Int) (hr : bput zs ds = r) :
    Calls Try.prog 21 #[.slice A n c, .slice A2 n2 c2] w fun e w' => ∃ v, e = .returned v ∧ Own .u8 5 w' w.heap.size v r ∧ Below w.heap.size w w' ∧ r.length ≤ 4398046511104 := by
  have hl := (vput_length zs ds.length).1
  have := h.len
  have := h.small
  have := h2.len
  have := h2.small
  refine (impl_AppendBytes A n c _ zs A2 n2 c2 _ ds w h.ints h.bare (Nat.le_refl _) h.small h2.ints h2.bare (Nat.le_refl _) h2.small).mono fun e w' ⟨v, h1, h2, h3⟩ => ⟨v, h1, hr ▸ h2, h3, by rw [← hr, bput, List.length_append]; omega⟩
theorem sp_EncodeInts (A : Option Addr) (n c : Nat) (vs : List Int) (w : World) (h : Sl .i64 w A n c vs) (hs : n ≤ 1048576) (r : List Int) (hr : vputs [] vs = r) :
    Calls Try.prog 34 #[.slice A n c] w fun e w' => ∃ v, e = .returned v ∧ Own .u8 5 w' w.heap.size v r ∧ Below w.heap.size w w' ∧ r.length ≤ 4398046511104 := by
  have hl := vputs_length vs []
  have := h.len
  simp only [List.length_nil] at hl
  refine (spec_EncodeInts A n c _ vs w h.ints (Nat.le_refl _) (by omega)).mono fun e w' ⟨v, h1, h2, h3⟩ => ⟨v, h1, hr ▸ h2, h3, by rw [← hr]; omega⟩
theorem im_EncodeInts (A : Option Addr) (n c : Nat) (vs : List Int) (w : World) (h : Sl .i64 w A n c vs) (hs : n ≤ 1048576) (r : List Int) (hr : vputs [] vs = r) :
    Calls Try.prog 24 #[.slice A n c] w fun e w' => ∃ v, e = .returned v ∧ Own .u8 5 w' w.heap.size v r ∧ Below w.heap.size w w' ∧ r.length ≤ 4398046511104 := by
  have hl := vputs_length vs []
  have := h.len
  simp only [List.length_nil] at hl
  refine (impl_EncodeInts A n c _ vs w h.ints (Nat.le_refl _) (by omega)).mono fun e w' ⟨v, h1, h2, h3⟩ => ⟨v, h1, hr ▸ h2, h3, by rw [← hr]; omega⟩
end Go.Proofs.Ytekpopndjcdgiaa
