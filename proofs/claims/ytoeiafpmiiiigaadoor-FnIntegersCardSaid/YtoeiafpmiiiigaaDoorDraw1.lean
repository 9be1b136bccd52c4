/- The draws of chapter 1. -/
import Derived.Test.YtoeiafpmiiiigaaDoorDraw
import Derived.Test.YtoeiafpmiiiigaaDoorParse
namespace Go.Proofs.YtoeiafpmiiiigaaDoor
open Go.RowKit

theorem spec_DrawFormatInt (A : Option Addr) (n c B : Nat) (zs : List Int) (w : World) (hb : Bytes w B A n zs) (hB : B ≤ w.heap.size) (hn : n ≤ 1048576) :
    Calls Tryd.prog 8 #[.slice A n c] w fun e w' => ∃ z : Int, (-9223372036854775808 ≤ z ∧ z ≤ 9223372036854775807) ∧ e = .returned (.int .i64 z) ∧ Below w.heap.size w w' := by
  go_enter Tryd.func8, Tryd.ntmps8
  go_wp2_with fail
  refine (spec_l1New A n c B zs _ hb hB hn).mono ?_
  rintro e w1 ⟨rfl, hc1, hb1⟩
  go_wp2_with fail
  refine (spec_l1One _ _ hc1).mono ?_
  rintro e w2 ⟨z, hr, rfl, hc2, hg2⟩
  go_wp2
  go_ret
  exact ⟨z, hr, rfl, hb1.trans (below_of_only hg2 (Nat.le_refl _) hb1.size)⟩
theorem spec_DrawCeilDiv (A : Option Addr) (n c B : Nat) (zs : List Int) (w : World) (hb : Bytes w B A n zs) (hB : B ≤ w.heap.size) (hn : n ≤ 1048576) :
    Calls Tryd.prog 10 #[.slice A n c] w fun e w' => ∃ y z : Int, (-9223372036854775808 ≤ y ∧ y ≤ 9223372036854775807) ∧ (-9223372036854775808 ≤ z ∧ z ≤ 9223372036854775807) ∧ e = .returned (.tuple #[.int .i64 y, .int .i64 z]) ∧ Below w.heap.size w w' := by
  go_enter Tryd.func10, Tryd.ntmps10
  go_wp2_with fail
  refine (spec_l1New A n c B zs _ hb hB hn).mono ?_
  rintro e w1 ⟨rfl, hc1, hb1⟩
  go_wp2_with fail
  refine (spec_l1One _ _ hc1).mono ?_
  rintro e w2 ⟨y, hy, rfl, hc2, hg2⟩
  go_wp2_with fail
  refine (spec_l1One _ _ hc2).mono ?_
  rintro e w3 ⟨z, hz, rfl, hc3, hg3⟩
  go_wp2
  go_ret2
  exact ⟨y, z, hy, hz, rfl, hb1.trans (below_of_only (only_trans hg2 hg3) (Nat.le_refl _) hb1.size)⟩
theorem spec_DrawParseInt (A : Option Addr) (n c B : Nat) (zs : List Int) (w : World) (hb : Bytes w B A n zs) (hB : B ≤ w.heap.size) (hn : n ≤ 1048576) :
    Calls Tryd.prog 6 #[.slice A n c] w fun e w' => ∃ s : ByteArray, s.size ≤ 100 ∧ e = .returned (.string s) ∧ Below w.heap.size w w' := by
  go_enter Tryd.func6, Tryd.ntmps6
  go_wp2_with fail
  refine (spec_l1New A n c B zs _ hb hB hn).mono ?_
  rintro e w1 ⟨rfl, hc1, hb1⟩
  go_wp2_with fail
  refine (spec_l1Once _ 2 _ hc1 (by omega)).mono ?_
  rintro e w2 ⟨b, rfl, hc2, hg2⟩
  have hgl := hc2.lt
  cases b
  · go_wp2_with fail
    refine (spec_l1Num _ _ hc2).mono ?_
    rintro e w3 ⟨z, hr, rfl, hc3, hg3⟩
    go_wp2_with fail
    refine (spec_FormatInt z _ (by omega) (by omega)).mono ?_
    rintro e w4 ⟨rfl, hb4⟩
    go_wp2
    go_ret
    have h3 := below_of_only (only_trans hg2 hg3) (Nat.le_refl _) hb1.size
    have h13 := hb1.trans h3
    refine ⟨_, ?_, rfl, h13.trans (hb4.mono h13.size)⟩
    have := fmtI_length z (by omega)
    show (fmtI z).toArray.size ≤ 100
    simp
    omega
  · go_wp2_with fail
    refine (spec_l1Str _ _ [⟨#[]⟩, ⟨#[48]⟩, ⟨#[48, 48]⟩, ⟨#[45, 49]⟩, ⟨#[48, 49]⟩, ⟨#[55]⟩, ⟨#[49, 48, 48, 48, 48, 48, 48, 48, 48, 48, 48, 48, 48]⟩, ⟨#[49, 48, 48, 48, 48, 48, 48, 48, 48, 48, 48, 48, 49]⟩, ⟨#[57, 57, 57, 57, 57, 57, 57, 57, 57, 57, 57, 57, 57, 57]⟩, ⟨#[49, 120]⟩, ⟨#[32, 49]⟩] _ _ _ _ (hc2.alloc _) rfl (by decide) (heap_alloc_new w2 _) (by omega) (by decide)).mono ?_
    rintro e w3 ⟨s, hs, rfl, hc3, hg3⟩
    have hl : s.size ≤ 100 := by
      have : ∀ x ∈ ([⟨#[]⟩, ⟨#[48]⟩, ⟨#[48, 48]⟩, ⟨#[45, 49]⟩, ⟨#[48, 49]⟩, ⟨#[55]⟩, ⟨#[49, 48, 48, 48, 48, 48, 48, 48, 48, 48, 48, 48, 48]⟩, ⟨#[49, 48, 48, 48, 48, 48, 48, 48, 48, 48, 48, 48, 49]⟩, ⟨#[57, 57, 57, 57, 57, 57, 57, 57, 57, 57, 57, 57, 57, 57]⟩, ⟨#[49, 120]⟩, ⟨#[32, 49]⟩] : List ByteArray), x.size ≤ 100 := by decide
      exact this s hs
    clear hs
    go_wp2
    go_ret
    exact ⟨s, hl, rfl, hb1.trans (below_of_only (only_trans hg2 (only_new hg3)) (Nat.le_refl _) hb1.size)⟩
end Go.Proofs.YtoeiafpmiiiigaaDoor
