/- EventName: program and model. -/
import Derived.Test.YtdgpodopkfnpeaaInts
import Derived.Test.YtdgpodopkfnpeaaFlat
namespace Go.Proofs.Ytdgpodopkfnpeaa
open Go.RowKit
set_option linter.unusedVariables false

def nameE (n : Int) : ByteArray := if n = 1 then ⟨#[99,97,108,108]⟩ else if n = 2 then ⟨#[98,117,115]⟩ else if n = 3 then ⟨#[108,97,109,112]⟩ else if n = 4 then ⟨#[112,111,119,101,114]⟩ else if n = 5 then ⟨#[115,101,99,111,110,100,115]⟩ else if n = 6 then ⟨#[104,101,108,112]⟩ else ⟨#[]⟩
theorem nameE_out {n : Int} (h : inB n 1 6 = false) : nameE n = ⟨#[]⟩ := by
  have := inB_f h
  unfold nameE
  rw [if_neg (by omega), if_neg (by omega), if_neg (by omega), if_neg (by omega), if_neg (by omega), if_neg (by omega)]
theorem nameE_zero {n : Int} (h : inB n 0 6 = false) : nameE n = ⟨#[]⟩ := by
  have := inB_f h
  unfold nameE
  rw [if_neg (by omega), if_neg (by omega), if_neg (by omega), if_neg (by omega), if_neg (by omega), if_neg (by omega)]
set_option maxHeartbeats 1000000 in
theorem impl_nameOf7 (n : Int) (g : Nat) (w : World) (h0 : w.cell? ⟨g, 0, none⟩ = some (.string ⟨#[]⟩)) (h1 : w.cell? ⟨g, 1, none⟩ = some (.string ⟨#[99,97,108,108]⟩)) (h2 : w.cell? ⟨g, 2, none⟩ = some (.string ⟨#[98,117,115]⟩)) (h3 : w.cell? ⟨g, 3, none⟩ = some (.string ⟨#[108,97,109,112]⟩)) (h4 : w.cell? ⟨g, 4, none⟩ = some (.string ⟨#[112,111,119,101,114]⟩)) (h5 : w.cell? ⟨g, 5, none⟩ = some (.string ⟨#[115,101,99,111,110,100,115]⟩)) (h6 : w.cell? ⟨g, 6, none⟩ = some (.string ⟨#[104,101,108,112]⟩)) (hg : g < w.heap.size) :
    Calls Try.prog 67 #[.int .i64 n, .slice (some ⟨g, 0, none⟩) 7 7] w fun e w' => e = .returned (.string (nameE n)) ∧ Below w.heap.size w w' := by
  cases h : inB n 0 6
  · have HR := Lib.hid (nameE_zero h)
    have H := Lib.hid h
    clear h
    go_enter Try.func67, Try.ntmps67
    go_wp2_with (go_at_call 110; refine (impl_InRange _ _ _ _).mono ?_; rintro e w' ⟨rfl, rfl⟩; rw [H.out])
    go_ret
    exact ⟨by rw [HR.out]; rfl, Below.refl _ _⟩
  · obtain ⟨l1, l2⟩ := inB_t h
    have H := Lib.hid h
    clear h
    have h3 : n = 0 ∨ n = 1 ∨ n = 2 ∨ n = 3 ∨ n = 4 ∨ n = 5 ∨ n = 6 := by omega
    clear l1 l2
    rcases h3 with rfl | rfl | rfl | rfl | rfl | rfl | rfl
    all_goals
      go_enter Try.func67, Try.ntmps67
      go_wp2_with (go_at_call 110; refine (impl_InRange _ _ _ _).mono ?_; rintro e w' ⟨rfl, rfl⟩; rw [H.out])
      go_ret
      exact ⟨rfl, Below.refl _ _⟩
set_option maxHeartbeats 1000000 in
theorem spec_EventName (n : Int) (w : World) : Calls Try.prog 15 #[.int .i64 n] w fun e w' => e = .returned (.string (nameE n)) ∧ Below w.heap.size w w' := by
  cases h : inB n 1 6
  · have HR := Lib.hid (nameE_out h)
    have H := Lib.hid h
    clear h
    go_enter Try.func15, Try.ntmps15
    go_wp2_with (go_at_call 66; refine (spec_l1In _ _ _ _).mono ?_; rintro e w' ⟨rfl, rfl⟩; rw [H.out])
    go_ret
    exact ⟨by rw [HR.out]; rfl, Below.refl _ _⟩
  · obtain ⟨l1, l2⟩ := inB_t h
    have H := Lib.hid h
    clear h
    have h3 : n = 1 ∨ n = 2 ∨ n = 3 ∨ n = 4 ∨ n = 5 ∨ n = 6 := by omega
    clear l1 l2
    rcases h3 with rfl | rfl | rfl | rfl | rfl | rfl
    all_goals
      go_enter Try.func15, Try.ntmps15
      go_wp2_with (go_at_call 66; refine (spec_l1In _ _ _ _).mono ?_; rintro e w' ⟨rfl, rfl⟩; rw [H.out])
      go_ret
      exact ⟨rfl, (Below.refl _ _).alloc (Nat.le_refl _) _⟩
theorem impl_EventName (n : Int) (w : World) : Calls Try.prog 16 #[.int .i64 n] w fun e w' => e = .returned (.string (nameE n)) ∧ Below w.heap.size w w' := by
  go_enter Try.func16, Try.ntmps16
  go_wp2_with fail
  refine (impl_nameOf7 n w.heap.size _ (by go_simp) (by go_simp) (by go_simp) (by go_simp) (by go_simp) (by go_simp) (by go_simp) (by simp)).mono ?_
  rintro e w1 ⟨rfl, hb1⟩
  go_wp2
  go_ret
  exact ⟨rfl, ((Below.refl _ _).alloc (Nat.le_refl _) _).trans (hb1.mono (by simp))⟩
end Go.Proofs.Ytdgpodopkfnpeaa
