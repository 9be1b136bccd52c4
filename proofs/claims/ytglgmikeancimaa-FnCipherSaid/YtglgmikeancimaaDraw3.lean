/- The draws of chapter 3. -/
import Derived.Test.YtglgmikeancimaaDraw2
namespace Go.Proofs.Ytglgmikeancimaa
open Go.RowKit
set_option linter.unusedVariables false

theorem mul_range {y z : Nat} (hy : y < 1000000) (hz : z < 2000) : 0 ≤ (y : Int) * (z : Int) ∧ (y : Int) * (z : Int) ≤ 2147483648 := by
  have h1 : y * z ≤ 1000000 * 2000 := Nat.mul_le_mul (by omega) (by omega)
  have h2 : (y : Int) * z = ((y * z : Nat) : Int) := by simp
  omega
theorem spec_l3Word (g : Nat) (w : World) (h : Curs w g) :
    Calls Try.prog 31 #[.pointer (some ⟨g, 0, none⟩)] w fun e w' => ∃ z : Int, (-1 ≤ z ∧ z ≤ 2147483648) ∧ e = .returned (.int .i64 z) ∧ Curs w' g ∧ w.grownBy w' (some g) := by
  go_enter Try.func31, Try.ntmps31
  go_wp2_with fail
  refine (spec_l1Once g 10 _ h (by omega)).mono ?_
  rintro e w1 ⟨b, rfl, hc1, hg1⟩
  have hgl := hc1.lt
  cases b
  · go_wp2_with fail
    refine (spec_l1Once g 4 _ hc1 (by omega)).mono ?_
    rintro e w2 ⟨b, rfl, hc2, hg2⟩
    have hgl2 := hc2.lt
    have hg2 := only_trans hg1 hg2
    cases b
    · go_wp2_with fail
      refine (spec_l1Below g 1000000 _ hc2 (by omega)).mono ?_
      rintro e w3 ⟨y, hy, rfl, hc3, hg3⟩
      go_wp2_with fail
      refine (spec_l1Below g 2000 _ hc3 (by omega)).mono ?_
      rintro e w4 ⟨z, hz, rfl, hc4, hg4⟩
      obtain ⟨m1, m2⟩ := mul_range (y := y) (z := z) (by omega) (by omega)
      go_wp2
      go_ret
      exact ⟨_, by omega, rfl, hc4, only_trans (only_trans hg2 hg3) hg4⟩
    · go_wp2_with fail
      refine (spec_l1Int g _ [0, 1, 2147483646] _ _ _ _ (hc2.alloc _) rfl (by decide) (heap_alloc_new w2 _) (by omega) (by decide)).mono ?_
      rintro e w3 ⟨z, hz, rfl, hc3, hg3⟩
      have hr : -1 ≤ z ∧ z ≤ 2147483648 := by
        simp only [List.mem_cons, List.not_mem_nil, or_false] at hz
        omega
      clear hz
      go_wp2
      go_ret
      exact ⟨z, hr, rfl, hc3, only_trans hg2 (only_new hg3)⟩
  · go_wp2_with fail
    refine (spec_l1Int g _ [-1, 2147483647, 2147483648] _ _ _ _ (hc1.alloc _) rfl (by decide) (heap_alloc_new w1 _) (by omega) (by decide)).mono ?_
    rintro e w2 ⟨z, hz, rfl, hc2, hg2⟩
    have hr : -1 ≤ z ∧ z ≤ 2147483648 := by
      simp only [List.mem_cons, List.not_mem_nil, or_false] at hz
      omega
    clear hz
    go_wp2
    go_ret
    exact ⟨z, hr, rfl, hc2, only_trans hg1 (only_new hg2)⟩
theorem spec_DrawEncrypt (A : Option Addr) (n c B : Nat) (zs : List Int) (w : World) (hb : Bytes w B A n zs) (hB : B ≤ w.heap.size) (hn : n ≤ 1048576) :
    Calls Try.prog 10 #[.slice A n c] w fun e w' => ∃ K v l, e = .returned (.tuple #[.int .i64 K, v]) ∧ (-1 ≤ K ∧ K ≤ 2147483648) ∧ Own .u8 5 w' w.heap.size v l ∧ l.length ≤ 8 ∧ (∀ z ∈ l, 0 ≤ z ∧ z ≤ 255) ∧ Below w.heap.size w w' := by
  go_enter Try.func10, Try.ntmps10
  go_wp2_with fail
  refine (spec_l1New A n c B zs _ hb hB hn).mono ?_
  rintro e w1 ⟨rfl, hc1, hb1⟩
  have hs1 := hb1.size
  go_wp2_with fail
  refine (spec_l3Word _ _ hc1).mono ?_
  rintro e w2 ⟨K, hK, rfl, hc2, hg2⟩
  have hs2 := hg2.size
  go_wp2_with fail
  refine (spec_l1Below _ 8 _ hc2 (by omega)).mono ?_
  rintro e w3 ⟨x, hx, rfl, hc3, hg3⟩
  have hg23 := only_trans hg2 hg3
  have hs23 := hg23.size
  go_wp2_with fail
  refine (spec_l1Bytes _ x _ hc3 (by omega)).mono ?_
  rintro e w4 ⟨v, l, rfl, hown, hl, hby, hc4, hg4⟩
  have HBY := Lib.hid hby
  clear hby
  go_wp2
  go_ret2
  exact ⟨K, v, l, rfl, hK, hown.mono (by omega), by omega, HBY.out, hb1.trans (below_of_only (only_trans hg23 hg4) (Nat.le_refl _) hs1)⟩
end Go.Proofs.Ytglgmikeancimaa
