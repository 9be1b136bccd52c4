/- The draws of chapter 3. -/
import Derived.Test.YtglgmikeancimaaDoorDraw2
namespace Go.Proofs.YtglgmikeancimaaDoor
open Go.RowKit
set_option linter.unusedVariables false

theorem mul_range {y z : Nat} (hy : y < 1000000) (hz : z < 2000) : 0 ≤ (y : Int) * (z : Int) ∧ (y : Int) * (z : Int) ≤ 2147483648 := by
  have h1 : y * z ≤ 1000000 * 2000 := Nat.mul_le_mul (by omega) (by omega)
  have h2 : (y : Int) * z = ((y * z : Nat) : Int) := by simp
  omega
theorem spec_l3Word (g : Nat) (w : World) (h : Curs w g) :
    Calls Tryd.prog 18 #[.pointer (some ⟨g, 0, none⟩)] w fun e w' => ∃ z : Int, (-1 ≤ z ∧ z ≤ 2147483648) ∧ e = .returned (.int .i64 z) ∧ Curs w' g ∧ w.grownBy w' (some g) := by
  go_enter Tryd.func18, Tryd.ntmps18
  go_wp2_with fail
  refine (spec_l1Once g 10 _ h (by omega)).mono ?_
  rintro e w1 ⟨b, rfl, hc1, hg1⟩
  have hgl := hc1.lt
  cases b
  · go_wp2_with fail
    refine (spec_l1Once g 4 _ hc1 (by omega)).mono ?_
    rintro e w2 ⟨b, rfl, hc2, hg2⟩
    have hgl2 := hc2.lt
    have hg2 := only_trans hg1 hg2
    cases b
    · go_wp2_with fail
      refine (spec_l1Below g 1000000 _ hc2 (by omega)).mono ?_
      rintro e w3 ⟨y, hy, rfl, hc3, hg3⟩
      go_wp2_with fail
      refine (spec_l1Below g 2000 _ hc3 (by omega)).mono ?_
      rintro e w4 ⟨z, hz, rfl, hc4, hg4⟩
      obtain ⟨m1, m2⟩ := mul_range (y := y) (z := z) (by omega) (by omega)
      go_wp2
      go_ret
      exact ⟨_, by omega, rfl, hc4, only_trans (only_trans hg2 hg3) hg4⟩
    · go_wp2_with fail
      refine (spec_l1Int g _ [0, 1, 2147483646] _ _ _ _ (hc2.alloc _) rfl (by decide) (heap_alloc_new w2 _) (by omega) (by decide)).mono ?_
      rintro e w3 ⟨z, hz, rfl, hc3, hg3⟩
      have hr : -1 ≤ z ∧ z ≤ 2147483648 := by
        simp only [List.mem_cons, List.not_mem_nil, or_false] at hz
        omega
      clear hz
      go_wp2
      go_ret
      exact ⟨z, hr, rfl, hc3, only_trans hg2 (only_new hg3)⟩
  · go_wp2_with fail
    refine (spec_l1Int g _ [-1, 2147483647, 2147483648] _ _ _ _ (hc1.alloc _) rfl (by decide) (heap_alloc_new w1 _) (by omega) (by decide)).mono ?_
    rintro e w2 ⟨z, hz, rfl, hc2, hg2⟩
    have hr : -1 ≤ z ∧ z ≤ 2147483648 := by
      simp only [List.mem_cons, List.not_mem_nil, or_false] at hz
      omega
    clear hz
    go_wp2
    go_ret
    exact ⟨z, hr, rfl, hc2, only_trans hg1 (only_new hg2)⟩
theorem spec_l3Words (g : Nat) (w : World) (h : Curs w g) :
    Calls Tryd.prog 19 #[.pointer (some ⟨g, 0, none⟩)] w fun e w' => ∃ v l, e = .returned v ∧ Own .i64 3 w' w.heap.size v l ∧ l.length ≤ 5 ∧ (∀ z ∈ l, -1 ≤ z ∧ z ≤ 2147483648) ∧ Curs w' g ∧ w.grownBy w' (some g) := by
  have hgl := h.lt
  go_enter Tryd.func19, Tryd.ntmps19
  go_wp2_with fail
  refine (spec_l1Below _ 5 _ (h.alloc _) (by omega)).mono ?_
  rintro e w1 ⟨x, hx, rfl, hc1, hg1⟩
  have hown0 := (own_bare .i64 3 w).grown hg1 (fun g' e' => by have := ((own_bare .i64 3 w).block g' e').1; intro e; injection e with e; omega)
  have hg01 := only_new hg1
  go_wp2
  go_loopw [3, 4] (fun v i wr => ∃ (k : Nat) (l : List Int), i = .int .i64 (k : Int) ∧ k + l.length ≤ 5 ∧ (∀ z ∈ l, -1 ≤ z ∧ z ≤ 2147483648) ∧ Own .i64 3 wr w.heap.size v l ∧ Curs wr g ∧ w.grownBy wr (some g)) (fun _ i _ => (intOf i).toNat)
  case atStart => exact ⟨x, [], rfl, by simp; omega, by simp, hown0, hc1, hg01⟩
  case round =>
    clear hg01 hown0 hc1 hg1
    obtain ⟨k, l, rfl, hl, hby, hown, hcu, hbl⟩ := hrel
    have hsz := hbl.size
    have HBY := Lib.hid hby
    clear hby
    by_cases hlt : 0 < k
    · go_wp2_with fail
      refine (spec_l3Word g _ hcu).mono ?_
      rintro e w2 ⟨z, hz, rfl, hc2, hg2⟩
      have hown2 := hown.grown hg2 (fun g' e' => by have := (hown.block g' e').1; intro e; injection e with e; omega)
      have hbl2 := only_trans hbl hg2
      have hs2 := hbl2.size
      clear hown hcu hbl hg2
      go_wp2_with (at_builtin; refine wpList_app1 rfl _ _ 24 rfl .i64 3 8 Tryd.underlying24 info_i64 w.heap.size _ l rfl hown2 (by decide) (by omega) _ _ _ w2.heap.size hs2 rfl (by simp) ?_; intro v3 w3 hown3 hgrow3 hat3)
      have hbl3 := only_push hown2 (only_bare hbl2 _) (Nat.le_refl _) hgrow3
      have hc3 := (hc2.alloc (.cells #[.int .i64 z] 3)).below (Below.grown (Below.refl (g + 1) _) hgrow3 (by simp <;> omega) (fun k' hk => by have := (hown2.block k' hk).1; omega))
      clear hgrow3 hat3 hown2 hbl2
      go_roundw
      case rel => exact ⟨k - 1, l ++ [z], by go_num, by simp; omega, by intro y hy; rcases List.mem_append.1 hy with hy | hy; exact HBY.out y hy; rw [List.mem_singleton] at hy; omega, hown3, hc3, hbl3⟩
      case measure => simp [intOf]; omega
    · go_wp2
      go_ret
      exact ⟨_, l, rfl, hown, by omega, HBY.out, hcu, hbl⟩
theorem spec_DrawKeyedHash (A : Option Addr) (n c B : Nat) (zs : List Int) (w : World) (hb : Bytes w B A n zs) (hB : B ≤ w.heap.size) (hn : n ≤ 1048576) :
    Calls Tryd.prog 7 #[.slice A n c] w fun e w' => ∃ K v l, e = .returned (.tuple #[.int .i64 K, v]) ∧ (-1 ≤ K ∧ K ≤ 2147483648) ∧ Own .i64 3 w' w.heap.size v l ∧ l.length ≤ 5 ∧ (∀ z ∈ l, -1 ≤ z ∧ z ≤ 2147483648) ∧ Below w.heap.size w w' := by
  go_enter Tryd.func7, Tryd.ntmps7
  go_wp2_with fail
  refine (spec_l1New A n c B zs _ hb hB hn).mono ?_
  rintro e w1 ⟨rfl, hc1, hb1⟩
  have hs1 := hb1.size
  go_wp2_with fail
  refine (spec_l3Word _ _ hc1).mono ?_
  rintro e w2 ⟨K, hK, rfl, hc2, hg2⟩
  have hs2 := hg2.size
  go_wp2_with fail
  refine (spec_l3Words _ _ hc2).mono ?_
  rintro e w3 ⟨v, l, rfl, hown, hl, hby, hc3, hg3⟩
  have hg23 := only_trans hg2 hg3
  have HBY := Lib.hid hby
  clear hby
  go_wp2
  go_ret2
  exact ⟨K, v, l, rfl, hK, hown.mono (by omega), by omega, HBY.out, hb1.trans (below_of_only hg23 (Nat.le_refl _) hs1)⟩
theorem spec_DrawDeriveFromString (A : Option Addr) (n c B : Nat) (zs : List Int) (w : World) (hb : Bytes w B A n zs) (hB : B ≤ w.heap.size) (hn : n ≤ 1048576) :
    Calls Tryd.prog 12 #[.slice A n c] w fun e w' => ∃ K s, e = .returned (.tuple #[.int .i64 K, .string s]) ∧ (-1 ≤ K ∧ K ≤ 2147483648) ∧ s.size ≤ 10 ∧ Below w.heap.size w w' := by
  go_enter Tryd.func12, Tryd.ntmps12
  go_wp2_with fail
  refine (spec_l1New A n c B zs _ hb hB hn).mono ?_
  rintro e w1 ⟨rfl, hc1, hb1⟩
  have hs1 := hb1.size
  go_wp2_with fail
  refine (spec_l3Word _ _ hc1).mono ?_
  rintro e w2 ⟨K, hK, rfl, hc2, hg2⟩
  have hs2 := hg2.size
  go_wp2_with fail
  refine (spec_l1Str w.heap.size w2.heap.size [⟨#[]⟩, ⟨#[97]⟩, ⟨#[98]⟩, ⟨#[97, 98]⟩, ⟨#[110, 101, 119, 115]⟩, ⟨#[120]⟩] _ _ _ _ (hc2.alloc _) rfl (by decide) (heap_alloc_new w2 _) (by have := hc2.lt; omega) (by decide)).mono ?_
  rintro e w3 ⟨s, hs, rfl, hc3, hg3⟩
  have hsz : s.size ≤ 10 := by
    simp only [List.mem_cons, List.not_mem_nil, or_false] at hs
    rcases hs with rfl | rfl | rfl | rfl | rfl | rfl <;> decide
  clear hs
  go_wp2
  go_ret2
  exact ⟨K, s, rfl, hK, hsz, hb1.trans (below_of_only (only_trans hg2 (only_new hg3)) (Nat.le_refl _) hs1)⟩
end Go.Proofs.YtglgmikeancimaaDoor
