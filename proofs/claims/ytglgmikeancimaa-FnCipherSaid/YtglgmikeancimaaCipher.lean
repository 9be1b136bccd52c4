/- The walk of FnCipher. -/
import Derived.Test.YtglgmikeancimaaDraw3
import Derived.Test.YtglgmikeancimaaStream
namespace Go.Proofs.Ytglgmikeancimaa
open Go.RowKit
set_option linter.unusedVariables false

theorem walk_FnCipher (W : World) (A : Option Addr) (n c : Nat) (zs : List Int) (ha : IntsAt .u8 W W.heap.size A n zs ∧ (∀ z ∈ zs, (Lit.int .u8 z).wf = true) ∧ n ≤ c ∧ c ≤ maxLen) :
    Calls Try.prog 3 #[.slice A n c] W fun e w' => e = .returned (.bool true) ∧ Below W.heap.size W w' := by
  obtain ⟨hi, hw, hnc, hcm⟩ := ha
  unfold maxLen at hcm
  have hB : Bytes W W.heap.size A n zs := ⟨hi, fun z hz => by
    have h' : (decide (IntKind.u8.min ≤ z) && decide (z ≤ IntKind.u8.max)) = true := hw z hz
    simp only [Bool.and_eq_true, decide_eq_true_eq] at h'
    exact h'⟩
  have HB := Lib.hid hB
  clear hB hi hw
  by_cases hbig : 1048576 < n
  · go_enter Try.func3, Try.ntmps3
    go_wp2_with (go_at_call 9; refine (laws_big _ _ _ _ (by omega)).mono ?_; rintro e w' ⟨rfl, rfl⟩)
    go_ret
    exact ⟨rfl, Below.refl _ _⟩
  · go_enter Try.func3, Try.ntmps3
    go_wp2_with fail
    refine (laws_big _ _ _ _ (by omega)).mono ?_
    rintro e w' ⟨rfl, rfl⟩
    go_wp2_with fail
    refine (spec_DrawEncrypt A n c _ zs _ HB.out (Nat.le_refl _) (by omega)).mono ?_
    rintro e w1 ⟨K, v, l, rfl, ⟨hK1, hK2⟩, hown, hl, hby, acc⟩
    obtain ⟨A1, c1, rfl⟩ := hown.sliced
    have o1 := Ow.new hown
    have he := decr_encr (k := K) hby
    have hd := encr_decr (k := K) hby
    have h1 := encr_byte K l
    have h2 := decr_byte K l
    have h3 := encr_length K l
    have h4 := decr_length K l
    obtain ⟨r, hr⟩ : ∃ r, encr K l = r := ⟨_, rfl⟩
    obtain ⟨s, hs⟩ : ∃ s, decr K l = s := ⟨_, rfl⟩
    rw [hr] at he h1 h3
    rw [hs] at hd h2 h4
    have HR := Lib.hid hr
    have HS := Lib.hid hs
    have HE := Lib.hid he
    have HD := Lib.hid hd
    have H1 := Lib.hid h1
    have H2 := Lib.hid h2
    have H3 := Lib.hid h3
    have H4 := Lib.hid h4
    have HY := Lib.hid hby
    clear hr hs he hd h1 h2 h3 h4 hby hown
    go_wp2_with fail
    refine (impl_Encrypt K A1 _ c1 _ l _ ⟨o1.ints, HY.out⟩ (Nat.le_refl _) (by omega)).mono ?_
    rw [HR.out]
    rintro e w2 ⟨v2, rfl, hown2, hb⟩
    obtain ⟨A2, c2, rfl⟩ := hown2.sliced
    replace o1 := o1.below hb
    replace acc := acc.trans (hb.mono acc.size)
    have o2 := Ow.new hown2
    clear hown2 hb
    go_wp2_with fail
    refine (impl_Decrypt K A2 _ c2 _ r _ ⟨o2.ints, H1.out⟩ (Nat.le_refl _) (by have := H3.out; omega)).mono ?_
    rw [HE.out]
    rintro e w3 ⟨v3, rfl, hown3, hb⟩
    obtain ⟨A3, c3, rfl⟩ := hown3.sliced
    replace o1 := o1.below hb
    replace acc := acc.trans (hb.mono acc.size)
    have o3 := Ow.new hown3
    clear hown3 hb o2
    go_wp2_with fail
    refine (sames_u8 A3 _ c3 l A1 _ c1 _ o3.ints o1.ints (by omega) (by omega)).mono ?_
    rintro e w4 ⟨rfl, hb⟩
    replace o1 := o1.below hb
    replace acc := acc.trans (hb.mono acc.size)
    clear hb o3
    go_wp2_with fail
    refine (impl_Decrypt K A1 _ c1 _ l _ ⟨o1.ints, HY.out⟩ (Nat.le_refl _) (by omega)).mono ?_
    rw [HS.out]
    rintro e w5 ⟨v5, rfl, hown5, hb⟩
    obtain ⟨A5, c5, rfl⟩ := hown5.sliced
    replace o1 := o1.below hb
    replace acc := acc.trans (hb.mono acc.size)
    have o5 := Ow.new hown5
    clear hown5 hb
    go_wp2_with fail
    refine (impl_Encrypt K A5 _ c5 _ s _ ⟨o5.ints, H2.out⟩ (Nat.le_refl _) (by have := H4.out; omega)).mono ?_
    rw [HD.out]
    rintro e w6 ⟨v6, rfl, hown6, hb⟩
    obtain ⟨A6, c6, rfl⟩ := hown6.sliced
    replace o1 := o1.below hb
    replace acc := acc.trans (hb.mono acc.size)
    have o6 := Ow.new hown6
    clear hown6 hb o5
    go_wp2_with fail
    refine (sames_u8 A6 _ c6 l A1 _ c1 _ o6.ints o1.ints (by omega) (by omega)).mono ?_
    rintro e w7 ⟨rfl, hb⟩
    replace o1 := o1.below hb
    replace acc := acc.trans (hb.mono acc.size)
    clear hb o6
    go_wp2_with fail
    refine (impl_Encrypt K A1 _ c1 _ l _ ⟨o1.ints, HY.out⟩ (Nat.le_refl _) (by omega)).mono ?_
    rw [HR.out]
    rintro e w8 ⟨v8, rfl, hown8, hb⟩
    obtain ⟨A8, c8, rfl⟩ := hown8.sliced
    replace acc := acc.trans (hb.mono acc.size)
    have hlen := H3.out
    clear hown8 hb o1
    go_wp2
    go_ret
    exact ⟨rfl, acc⟩
end Go.Proofs.Ytglgmikeancimaa
