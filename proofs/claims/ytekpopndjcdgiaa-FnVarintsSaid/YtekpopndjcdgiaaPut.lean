/- Contracts of chapter 2's writers: program and model. -/
import Derived.Test.YtekpopndjcdgiaaInts
import Derived.Test.YtekpopndjcdgiaaHelp
import Derived.Test.YtekpopndjcdgiaaVar
namespace Go.Proofs.Ytekpopndjcdgiaa
open Go.RowKit
set_option linter.unusedVariables false

theorem spec_AppendUvarint (A : Option Addr) (n c B : Nat) (zs : List Int) (N : Int) (w : World) (h : IntsAt .u8 w B A n zs) (hA : A = none → n = 0 ∧ c = 0) (hB : B ≤ w.heap.size) (hn : n ≤ 1099511627776) :
    Calls Try.prog 27 #[.slice A n c, .int .i64 N] w fun e w' => ∃ v, e = .returned v ∧ Own .u8 5 w' w.heap.size v (vput zs N) ∧ Below w.heap.size w w' := by
  have hl := h.1
  cases hin : inB N 0 1000000000000
  · have HR := Lib.hid (vput_out (zs := zs) (inB_f hin))
    have H1 := Lib.hid hin
    clear hin
    go_enter Try.func27, Try.ntmps27
    go_wp2_with (first
      | (at_builtin; refine wpList_app rfl _ _ 22 22 rfl .u8 5 5 1 Try.underlying22 Try.underlying22 info_u8 w.heap.size _ [] rfl (own_bare _ _ w) A n c B zs rfl (h.keep fun p hp => World.cell?_of_block (Below.heap_alloc w _ _ (by omega))) hA (by decide) (by simp; omega) (by simp) ?_; intro v1 w1 hown1 hgrow1 hat1)
      | (go_at_call 57; refine (spec_l1In _ _ _ _).mono ?_; rintro e w' ⟨rfl, rfl⟩; rw [H1.out]))
    go_ret
    refine ⟨v1, rfl, by rw [HR.out]; simpa using hown1, ?_⟩
    exact (own_bare .u8 5 w).push (Nat.le_refl _) ((Below.refl _ _).alloc (Nat.le_refl _) _) (by simp) hgrow1
  · obtain ⟨hi1, hi2⟩ := inB_t hin
    have H1 := Lib.hid hin
    clear hin
    obtain ⟨m, rfl⟩ := Int.eq_ofNat_of_zero_le hi1
    go_enter Try.func27, Try.ntmps27
    go_wp2_with (first
      | (at_builtin; refine wpList_app rfl _ _ 22 22 rfl .u8 5 5 1 Try.underlying22 Try.underlying22 info_u8 w.heap.size _ [] rfl (own_bare _ _ w) A n c B zs rfl (h.keep fun p hp => World.cell?_of_block (Below.heap_alloc w _ _ (by omega))) hA (by decide) (by simp; omega) (by simp) ?_; intro v1 w1 hown1 hgrow1 hat1)
      | (go_at_call 57; refine (spec_l1In _ _ _ _).mono ?_; rintro e w' ⟨rfl, rfl⟩; rw [H1.out]))
    have hb1 := (own_bare .u8 5 w).push (Nat.le_refl _) ((Below.refl _ _).alloc (Nat.le_refl _) _) (by simp) hgrow1
    clear hgrow1
    go_loopw [5, 1] (fun v i wr => ∃ (x : Nat) (l : List Int), i = .int .i64 x ∧ Grp zs m x l ∧ Own .u8 5 wr w.heap.size v l ∧ Below w.heap.size w wr) (fun _ i _ => (intOf i).toNat)
    case atStart => exact ⟨m, zs, rfl, Grp.start (by omega), by simpa using hown1, hb1⟩
    case round =>
      obtain ⟨x, l, rfl, hgr, hown, hbl⟩ := hrel
      have hxm := hgr.2.1
      have hlen := hgr.len
      have hsz := hbl.size
      by_cases hx : 127 < x
      · obtain ⟨y, hy⟩ : ∃ y, y = x % 128 := ⟨_, rfl⟩
        obtain ⟨z, hz⟩ : ∃ z, z = y + 128 := ⟨_, rfl⟩
        have g1 : bits .and .i64 (x : Int) 127 = (y : Int) := by rw [hy]; exact and127 x (by omega)
        have g2 : bits .or .i64 (y : Int) 128 = (z : Int) := by rw [hz]; exact or128 y (by omega)
        have HS := Lib.hid (hgr.step hx (b := (z : Int)) (by rw [hz, hy]))
        have hz' : z < 256 := by omega
        clear hgr hz hy
        go_wp2_with (at_builtin; refine wpList_app1 rfl _ _ 22 rfl .u8 5 1 Try.underlying22 info_u8 w.heap.size _ l rfl hown (by decide) (by omega) _ _ _ wr.heap.size hsz rfl (by simp) ?_; intro v1 w1 hown1 hgrow1 hat1)
        have hb1 := hown.push (Nat.le_refl _) (hbl.alloc hsz _) (by simp; omega) hgrow1
        clear hgrow1 hat1 hown hbl
        go_roundw
        case rel => exact ⟨x / 128, l ++ [(z : Int)], by go_num, HS.out, hown1, hb1⟩
        case measure => simp [intOf]; omega
      · have HS := Lib.hid (hgr.done (by omega) (b := (x : Int)) rfl)
        clear hgr
        go_wp2_with (at_builtin; refine wpList_app1 rfl _ _ 22 rfl .u8 5 1 Try.underlying22 info_u8 w.heap.size _ l rfl hown (by decide) (by omega) _ _ _ wr.heap.size hsz rfl (by simp) ?_; intro v1 w1 hown1 hgrow1 hat1)
        have hb1 := hown.push (Nat.le_refl _) (hbl.alloc hsz _) (by simp; omega) hgrow1
        go_ret
        exact ⟨v1, rfl, by rw [← HS.out]; exact hown1, hb1⟩
theorem bytes_Clone (A : Option Addr) (n c B : Nat) (zs : List Int) (w : World) (h : IntsAt .u8 w B A n zs) (hA : A = none → n = 0 ∧ c = 0) (hB : B ≤ w.heap.size) (hn : n ≤ 1099511627776) :
    Calls Try.prog 62 #[.slice A n c] w fun e w' => ∃ v, e = .returned v ∧ Own .u8 5 w' w.heap.size v zs ∧ Below w.heap.size w w' := by
  have hl := h.1
  cases A with
  | none =>
    obtain ⟨rfl, rfl⟩ := hA rfl
    obtain rfl : zs = [] := List.eq_nil_of_length_eq_zero hl
    have hnil : ∀ W, (binOp .eql 22 (.slice none 0 0) (.slice none 0 0)).run Try.prog W = .ok (.bool true) W := fun W => eql_slice_nil Try.underlying22 _ _ _ W
    go_enter Try.func62, Try.ntmps62
    go_wp2
    go_ret
    exact ⟨_, rfl, own_nil _ _ _ _, Below.refl _ _⟩
  | some ad =>
    have hnil : ∀ W, (binOp .eql 22 (.slice (some ad) n c) (.slice none 0 0)).run Try.prog W = .ok (.bool false) W := fun W => eql_slice_nil Try.underlying22 _ _ _ W
    go_enter Try.func62, Try.ntmps62
    go_wp2_with (at_builtin; refine wpList_app rfl _ _ 22 22 rfl .u8 5 5 1 Try.underlying22 Try.underlying22 info_u8 w.heap.size _ [] rfl (own_bare _ _ w) (some ad) n c B zs rfl (h.keep fun p hp => World.cell?_of_block (Below.heap_alloc w _ _ (by omega))) hA (by decide) (by simp; omega) (by simp) ?_; intro v1 w1 hown1 hgrow1 hat1)
    go_ret
    exact ⟨v1, rfl, by simpa using hown1, (own_bare .u8 5 w).push (Nat.le_refl _) ((Below.refl _ _).alloc (Nat.le_refl _) _) (by simp) hgrow1⟩
theorem varint_appendTo (lo : Nat) (N : Int) (v : Value) (zs : List Int) (w : World) (h : Own .u8 5 w lo v zs) (hlo : lo ≤ w.heap.size) (hn : zs.length ≤ 1099511627776) :
    Calls Try.prog 80 #[.int .i64 N, v] w fun e w' => ∃ v', e = .returned v' ∧ Own .u8 5 w' lo v' (vput zs N) ∧ Below lo w w' := by
  cases hin : inB N 0 1000000000000
  · have HR := Lib.hid (vput_out (zs := zs) (inB_f hin))
    have H1 := Lib.hid hin
    clear hin
    go_enter Try.func80, Try.ntmps80
    go_wp2_with (go_at_call 55; refine (impl_InRange _ _ _ _).mono ?_; rintro e w' ⟨rfl, rfl⟩; rw [H1.out])
    go_ret
    exact ⟨v, rfl, by rw [HR.out]; exact h, Below.refl _ _⟩
  · obtain ⟨hi1, hi2⟩ := inB_t hin
    have H1 := Lib.hid hin
    clear hin
    obtain ⟨m, rfl⟩ := Int.eq_ofNat_of_zero_le hi1
    go_enter Try.func80, Try.ntmps80
    go_wp2_with (go_at_call 55; refine (impl_InRange _ _ _ _).mono ?_; rintro e w' ⟨rfl, rfl⟩; rw [H1.out])
    go_loopw [1, 0] (fun v i wr => ∃ (x : Nat) (l : List Int), i = .int .i64 x ∧ Grp zs m x l ∧ Own .u8 5 wr lo v l ∧ Below lo w wr) (fun _ i _ => (intOf i).toNat)
    case atStart => exact ⟨m, zs, rfl, Grp.start (by omega), h, Below.refl _ _⟩
    case round =>
      obtain ⟨x, l, rfl, hgr, hown, hbl⟩ := hrel
      have hxm := hgr.2.1
      have hlen := hgr.len
      have hsz := hbl.size
      by_cases hx : 127 < x
      · obtain ⟨y, hy⟩ : ∃ y, y = x % 128 := ⟨_, rfl⟩
        obtain ⟨z, hz⟩ : ∃ z, z = y + 128 := ⟨_, rfl⟩
        have g1 : bits .and .i64 (x : Int) 127 = (y : Int) := by rw [hy]; exact and127 x (by omega)
        have g2 : bits .or .u8 (y : Int) 128 = (z : Int) := by rw [hz]; exact or128u y (by omega)
        have HS := Lib.hid (hgr.step hx (b := (z : Int)) (by rw [hz, hy]))
        have hz' : z < 256 := by omega
        have hy' : y < 128 := by omega
        clear hgr hz hy
        go_wp2_with (at_builtin; refine wpList_app1 rfl _ _ 22 rfl .u8 5 1 Try.underlying22 info_u8 lo _ l rfl hown (by decide) (by omega) _ _ _ wr.heap.size (by omega) rfl (by simp) ?_; intro v1 w1 hown1 hgrow1 hat1)
        have hb1 := hown.push (Nat.le_refl _) (hbl.alloc (by omega) _) (by simp; omega) hgrow1
        clear hgrow1 hat1 hown hbl
        go_roundw
        case rel => exact ⟨x / 128, l ++ [(z : Int)], by go_num, HS.out, hown1, hb1⟩
        case measure => simp [intOf]; omega
      · have HS := Lib.hid (hgr.done (by omega) (b := (x : Int)) rfl)
        clear hgr
        go_wp2_with (at_builtin; refine wpList_app1 rfl _ _ 22 rfl .u8 5 1 Try.underlying22 info_u8 lo _ l rfl hown (by decide) (by omega) _ _ _ wr.heap.size (by omega) rfl (by simp) ?_; intro v1 w1 hown1 hgrow1 hat1)
        have hb1 := hown.push (Nat.le_refl _) (hbl.alloc (by omega) _) (by simp; omega) hgrow1
        go_ret
        exact ⟨v1, rfl, by rw [← HS.out]; exact hown1, hb1⟩
end Go.Proofs.Ytekpopndjcdgiaa
