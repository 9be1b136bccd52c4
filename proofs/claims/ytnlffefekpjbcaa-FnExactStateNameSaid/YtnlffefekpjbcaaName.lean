/- Names out of a list: nameOf, StateName, ModeName: program and model. -/
import Derived.Test.YtnlffefekpjbcaaInts
import Derived.Test.YtnlffefekpjbcaaFlat
namespace Go.Proofs.Ytnlffefekpjbcaa
open Go.RowKit
set_option linter.unusedVariables false

/-- one of three names. -/
def nameT (a b c : ByteArray) (n : Int) : ByteArray := if n = 0 then a else if n = 1 then b else if n = 2 then c else ⟨#[]⟩
theorem nameT_out {a b c : ByteArray} {n : Int} (h : inB n 0 2 = false) : nameT a b c n = ⟨#[]⟩ := by
  have := inB_f h
  unfold nameT
  rw [if_neg (by omega), if_neg (by omega), if_neg (by omega)]
theorem impl_nameOf (a b c : ByteArray) (n : Int) (g : Nat) (w : World) (h0 : w.cell? ⟨g, 0, none⟩ = some (.string a)) (h1 : w.cell? ⟨g, 1, none⟩ = some (.string b)) (h2 : w.cell? ⟨g, 2, none⟩ = some (.string c)) (hg : g < w.heap.size) :
    Calls Try.prog 60 #[.int .i64 n, .slice (some ⟨g, 0, none⟩) 3 3] w fun e w' => e = .returned (.string (nameT a b c n)) ∧ Below w.heap.size w w' := by
  cases h : inB n 0 2
  · have HR := Lib.hid (nameT_out (a := a) (b := b) (c := c) h)
    have H := Lib.hid h
    clear h
    go_enter Try.func60, Try.ntmps60
    go_wp2_with (go_at_call 65; refine (impl_InRange _ _ _ _).mono ?_; rintro e w' ⟨rfl, rfl⟩; rw [H.out])
    go_ret
    exact ⟨by rw [HR.out]; rfl, Below.refl _ _⟩
  · obtain ⟨l1, l2⟩ := inB_t h
    have H := Lib.hid h
    clear h
    have h3 : n = 0 ∨ n = 1 ∨ n = 2 := by omega
    clear l1 l2
    rcases h3 with rfl | rfl | rfl
    all_goals
      go_enter Try.func60, Try.ntmps60
      go_wp2_with (go_at_call 65; refine (impl_InRange _ _ _ _).mono ?_; rintro e w' ⟨rfl, rfl⟩; rw [H.out])
      go_ret
      exact ⟨rfl, Below.refl _ _⟩
def nameStateName (n : Int) : ByteArray := nameT ⟨#[115,116,101,112]⟩ ⟨#[102,114,101,101]⟩ ⟨#[97,108,111,110,101]⟩ n
theorem spec_StateName (n : Int) (w : World) : Calls Try.prog 32 #[.int .i64 n] w fun e w' => e = .returned (.string (nameStateName n)) ∧ Below w.heap.size w w' := by
  cases h : inB n 0 2
  · have HR : Hid (nameStateName n = ⟨#[]⟩) := Lib.hid (nameT_out h)
    have H := Lib.hid h
    clear h
    go_enter Try.func32, Try.ntmps32
    go_wp2_with (go_at_call 54; refine (spec_l1In _ _ _ _).mono ?_; rintro e w' ⟨rfl, rfl⟩; rw [H.out])
    go_ret
    exact ⟨by rw [HR.out]; rfl, Below.refl _ _⟩
  · obtain ⟨l1, l2⟩ := inB_t h
    have H := Lib.hid h
    clear h
    have h3 : n = 0 ∨ n = 1 ∨ n = 2 := by omega
    clear l1 l2
    rcases h3 with rfl | rfl | rfl
    all_goals
      go_enter Try.func32, Try.ntmps32
      go_wp2_with (go_at_call 54; refine (spec_l1In _ _ _ _).mono ?_; rintro e w' ⟨rfl, rfl⟩; rw [H.out])
      go_ret
      exact ⟨rfl, (Below.refl _ _).alloc (Nat.le_refl _) _⟩
theorem impl_StateName (n : Int) (w : World) : Calls Try.prog 33 #[.int .i64 n] w fun e w' => e = .returned (.string (nameStateName n)) ∧ Below w.heap.size w w' := by
  go_enter Try.func33, Try.ntmps33
  go_wp2_with fail
  refine (impl_nameOf ⟨#[115,116,101,112]⟩ ⟨#[102,114,101,101]⟩ ⟨#[97,108,111,110,101]⟩ n w.heap.size _ (by go_simp) (by go_simp) (by go_simp) (by simp)).mono ?_
  rintro e w1 ⟨rfl, hb1⟩
  go_wp2
  go_ret
  exact ⟨rfl, ((Below.refl _ _).alloc (Nat.le_refl _) _).trans (hb1.mono (by simp))⟩
end Go.Proofs.Ytnlffefekpjbcaa
