/- The laws' helpers for slices of slices of numbers. -/
import Derived.Test.YtdlcjmdkafebpaaSS
import Derived.Test.YtdlcjmdkafebpaaMem
import Derived.Test.YtdlcjmdkafebpaaHelp
import Derived.Deep.RegionHeld3
namespace Go.Proofs.Ytdlcjmdkafebpaa
open Go.RowKit
set_option linter.unusedVariables false

/-- no two of these lie in one block. -/
def ApartL (us : List Value) : Prop := ∀ (i j : Nat) (u u' : Value), i ≠ j → us[i]? = some u → us[j]? = some u' → ∀ g, u.ownBlock = some g → u'.ownBlock ≠ some g
theorem ApartL.nil : ApartL [] := fun i j u u' _ h => by simp at h
theorem ApartL.snoc {us : List Value} {u : Value} {b : Nat} (h : ApartL us) (h1 : ∀ x ∈ us, ∀ g, x.ownBlock = some g → g < b) (h2 : ∀ g, u.ownBlock = some g → b ≤ g) : ApartL (us ++ [u]) := by
  intro i j x y hij hx hy g hg e
  rw [List.getElem?_append] at hx hy
  split at hx
  · rename_i hi
    split at hy
    · exact h i j x y hij hx hy g hg e
    · rename_i hj
      have : j - us.length = 0 := by
        have := (List.getElem?_eq_some_iff.1 hy).1
        simp at this; omega
      rw [this] at hy
      simp at hy
      subst hy
      have := h1 x (List.mem_of_getElem? hx) g hg
      have := h2 g e
      omega
  · rename_i hi
    have hi0 : i - us.length = 0 := by
      have := (List.getElem?_eq_some_iff.1 hx).1
      simp at this; omega
    rw [hi0] at hx
    simp at hx
    subst hx
    split at hy
    · have := h1 y (List.mem_of_getElem? hy) g e
      have := h2 g hg
      omega
    · rename_i hj
      have : j - us.length = 0 := by
        have := (List.getElem?_eq_some_iff.1 hy).1
        simp at this; omega
      omega
theorem sz_ints (A : Option Addr) (n c : Nat) (left : Int) (w : World) (hn : n ≤ 9223372036854775807) (hl : 0 ≤ left ∧ left ≤ 1048576) :
    Calls Try.prog 76 #[.slice A n c, .int .i64 left] w fun e w' => e = .returned (.int .i64 (if (n : Int) ≤ left then left - (n : Int) else -1)) ∧ w = w' := by
  obtain ⟨l1, l2⟩ := hl
  by_cases h : (n : Int) ≤ left
  · rw [if_pos h]
    go_enter Try.func76, Try.ntmps76
    go_wp2
    go_ret
    exact ⟨rfl, rfl⟩
  · rw [if_neg h]
    go_enter Try.func76, Try.ntmps76
    go_wp2
    go_ret
    exact ⟨rfl, rfl⟩
end Go.Proofs.Ytdlcjmdkafebpaa
