/- Names out of a list: nameOf, StateName, ModeName: program and model. -/
import Derived.Test.YtnlffefekpjbcabInts
import Derived.Test.YtnlffefekpjbcabFlat
namespace Go.Proofs.Ytnlffefekpjbcab
open Go.RowKit
set_option linter.unusedVariables false

/-- one of three names. -/
def nameT (a b c : ByteArray) (n : Int) : ByteArray := if n = 0 then a else if n = 1 then b else if n = 2 then c else ⟨#[]⟩
theorem nameT_out {a b c : ByteArray} {n : Int} (h : inB n 0 2 = false) : nameT a b c n = ⟨#[]⟩ := by
  have := inB_f h
  unfold nameT
  rw [if_neg (by omega), if_neg (by omega), if_neg (by omega)]
theorem impl_nameOf (a b c : ByteArray) (n : Int) (g : Nat) (w : World) (h0 : w.cell? ⟨g, 0, none⟩ = some (.string a)) (h1 : w.cell? ⟨g, 1, none⟩ = some (.string b)) (h2 : w.cell? ⟨g, 2, none⟩ = some (.string c)) (hg : g < w.heap.size) :
    Calls Try.prog 80 #[.int .i64 n, .slice (some ⟨g, 0, none⟩) 3 3] w fun e w' => e = .returned (.string (nameT a b c n)) ∧ Below w.heap.size w w' := by
  cases h : inB n 0 2
  · have HR := Lib.hid (nameT_out (a := a) (b := b) (c := c) h)
    have H := Lib.hid h
    clear h
    go_enter Try.func80, Try.ntmps80
    go_wp2_with (go_at_call 78; refine (impl_InRange _ _ _ _).mono ?_; rintro e w' ⟨rfl, rfl⟩; rw [H.out])
    go_ret
    exact ⟨by rw [HR.out]; rfl, Below.refl _ _⟩
  · obtain ⟨l1, l2⟩ := inB_t h
    have H := Lib.hid h
    clear h
    have h3 : n = 0 ∨ n = 1 ∨ n = 2 := by omega
    clear l1 l2
    rcases h3 with rfl | rfl | rfl
    all_goals
      go_enter Try.func80, Try.ntmps80
      go_wp2_with (go_at_call 78; refine (impl_InRange _ _ _ _).mono ?_; rintro e w' ⟨rfl, rfl⟩; rw [H.out])
      go_ret
      exact ⟨rfl, Below.refl _ _⟩
def nameModeName (n : Int) : ByteArray := nameT ⟨#[102,117,108,108]⟩ ⟨#[98,108,105,110,107]⟩ ⟨#[100,97,114,107]⟩ n
theorem spec_ModeName (n : Int) (w : World) : Calls Try.prog 28 #[.int .i64 n] w fun e w' => e = .returned (.string (nameModeName n)) ∧ Below w.heap.size w w' := by
  cases h : inB n 0 2
  · have HR : Hid (nameModeName n = ⟨#[]⟩) := Lib.hid (nameT_out h)
    have H := Lib.hid h
    clear h
    go_enter Try.func28, Try.ntmps28
    go_wp2_with (go_at_call 79; refine (spec_l1In _ _ _ _).mono ?_; rintro e w' ⟨rfl, rfl⟩; rw [H.out])
    go_ret
    exact ⟨by rw [HR.out]; rfl, Below.refl _ _⟩
  · obtain ⟨l1, l2⟩ := inB_t h
    have H := Lib.hid h
    clear h
    have h3 : n = 0 ∨ n = 1 ∨ n = 2 := by omega
    clear l1 l2
    rcases h3 with rfl | rfl | rfl
    all_goals
      go_enter Try.func28, Try.ntmps28
      go_wp2_with (go_at_call 79; refine (spec_l1In _ _ _ _).mono ?_; rintro e w' ⟨rfl, rfl⟩; rw [H.out])
      go_ret
      exact ⟨rfl, (Below.refl _ _).alloc (Nat.le_refl _) _⟩
theorem impl_ModeName (n : Int) (w : World) : Calls Try.prog 29 #[.int .i64 n] w fun e w' => e = .returned (.string (nameModeName n)) ∧ Below w.heap.size w w' := by
  go_enter Try.func29, Try.ntmps29
  go_wp2_with fail
  refine (impl_nameOf ⟨#[102,117,108,108]⟩ ⟨#[98,108,105,110,107]⟩ ⟨#[100,97,114,107]⟩ n w.heap.size _ (by go_simp) (by go_simp) (by go_simp) (by simp)).mono ?_
  rintro e w1 ⟨rfl, hb1⟩
  go_wp2
  go_ret
  exact ⟨rfl, ((Below.refl _ _).alloc (Nat.le_refl _) _).trans (hb1.mono (by simp))⟩
end Go.Proofs.Ytnlffefekpjbcab
