/- Contracts of the draws of chapter 23. -/
import Derived.Test.YtdlcjmdkafebpaaDraw4
import Derived.Test.YtdlcjmdkafebpaaLnk
import Derived.Test.YtdlcjmdkafebpaaFlat
namespace Go.Proofs.Ytdlcjmdkafebpaa
open Go.RowKit
set_option linter.unusedVariables false

set_option maxHeartbeats 1000000 in
theorem spec_l23Draw (g : Nat) (w : World) (h : Curs w g) :
    Calls Try.prog 139 #[.pointer (some ⟨g, 0, none⟩)] w fun e w' => ∃ p : Lnk, p.wf ∧ e = .returned p.val ∧ Curs w' g ∧ w.grownBy w' (some g) := by
  have hgl := h.lt
  go_enter Try.func139, Try.ntmps139
  go_wp2_with fail
  refine (spec_l1Below g 8 _ (h.alloc _) (by omega)).mono ?_
  rintro e w1 ⟨a, ha, rfl, hc1, hg1⟩
  have hwa : IntKind.i64.wrap (1 + (a : Int)) = 1 + (a : Int) := by rw [IntKind.wrap_i64]; omega
  go_wp2_with fail
  refine (spec_l1Below g 9 _ hc1 (by omega)).mono ?_
  rintro e w2 ⟨b, hb, rfl, hc2, hg2⟩
  go_wp2_with fail
  refine (spec_l1Below g 50 _ hc2 (by omega)).mono ?_
  rintro e w3 ⟨c, hc, rfl, hc3, hg3⟩
  go_wp2_with fail
  refine (spec_l1Below g 60 _ hc3 (by omega)).mono ?_
  rintro e w4 ⟨d, hd, rfl, hc4, hg4⟩
  have hs1 := hg1.size
  have hs2 := hg2.size
  have hs3 := hg3.size
  have hs4 := hg4.size
  simp only [World.size_alloc] at hs1
  have hrb : w4.heap[w.heap.size]? = some (.cells #[.int .i64 0, .int .i64 0, .int .i64 0, .int .i64 0] 74 (0, 0)) :=
    (hg4.block w.heap.size (by omega) (by simp; omega)).trans ((hg3.block w.heap.size (by omega) (by simp; omega)).trans ((hg2.block w.heap.size (by omega) (by simp; omega)).trans ((hg1.block w.heap.size (by simp) (by simp; omega)).trans (heap_alloc_new w _))))
  have HG : Hid (w.grownBy w4 (some g)) := Lib.hid (only_trans (only_trans (only_trans (only_new hg1) hg2) hg3) hg4)
  have r0 := cell_of_row w4 _ 0 _ _ _ hrb
  have r1 := cell_of_row w4 _ 1 _ _ _ hrb
  have r2 := cell_of_row w4 _ 2 _ _ _ hrb
  have r3 := cell_of_row w4 _ 3 _ _ _ hrb
  have rf : ∀ j, w4.frozen? ⟨w.heap.size, j, none⟩ = false := fun j => frozen_of_row _ _ j _ _ hrb
  simp only [List.getElem?_toArray, List.getElem?_cons_succ, List.getElem?_cons_zero] at r0 r1 r2 r3
  clear hrb hg1 hg2 hg3 hg4 hc1 hc2 hc3
  go_wp2
  refine bodyPost_ret (by rw [results_cell rfl]; go_simp; try rfl) rfl ?_
  exact ⟨⟨1 + (a : Int), b, c, d⟩, ⟨wf64 (1 + (a : Int)) (by omega), wf64 (b : Int) (by omega), wf64 (c : Int) (by omega), wf64 (d : Int) (by omega)⟩, rfl, ((((hc4.fresh (by omega)).fresh (by omega)).fresh (by omega)).fresh (by omega)), only_fresh (only_fresh (only_fresh (only_fresh HG.out (Nat.le_refl _) _) (Nat.le_refl _) _) (Nat.le_refl _) _) (Nat.le_refl _) _⟩
set_option maxHeartbeats 2000000 in
theorem spec_l23Any (g : Nat) (w : World) (h : Curs w g) :
    Calls Try.prog 109 #[.pointer (some ⟨g, 0, none⟩)] w fun e w' => ∃ p : Lnk, p.wf ∧ e = .returned p.val ∧ Curs w' g ∧ w.grownBy w' (some g) := by
  have hgl := h.lt
  go_enter Try.func109, Try.ntmps109
  go_wp2_with fail
  refine (spec_l23Draw g _ (h.alloc _)).mono ?_
  rintro e w2 ⟨⟨p0, p1, p2, p3⟩, hwf, rfl, hc2, hg2⟩
  simp only [Lnk.val]
  obtain ⟨wf0, wf1, wf2, wf3⟩ := hwf
  simp only at wf0 wf1 wf2 wf3
  have hrb : w2.heap[w.heap.size]? = some (.cells #[.int .i64 0, .int .i64 0, .int .i64 0, .int .i64 0] 74 (0, 0)) :=
    (hg2.block w.heap.size (by simp) (by simp; omega)).trans (heap_alloc_new w _)
  have hlt : w.heap.size < w2.heap.size := lt_of_block hrb
  have HG : Hid (w.grownBy w2 (some g)) := Lib.hid (only_new hg2)
  clear hg2
  go_wp2_with fail
  refine (spec_l1Below g 12 _ (hc2.alloc _) (by omega)).mono ?_
  rintro e w4 ⟨y, hy, rfl, hc4, hg4⟩
  have hp4 : w4.heap[w2.heap.size]? = some (.cells #[.int .i64 p0, .int .i64 p1, .int .i64 p2, .int .i64 p3] 74 (0, 0)) := (hg4.block w2.heap.size (by simp) (by simp; omega)).trans (heap_alloc_new w2 _)
  have hr4 := (hg4.block w.heap.size (by simp; omega) (by simp; omega)).trans ((Below.heap_alloc w2 _ w.heap.size hlt).trans hrb)
  have HG4 : Hid (w.grownBy w4 (some g)) := Lib.hid (only_trans HG.out (only_trans (only_alloc (World.grownBy.refl _ _) _) hg4))
  have hs4 := lt_of_block hp4
  clear hg4 hc2 hrb HG
  have hy5 : y = 0 ∨ y = 1 ∨ y = 2 ∨ y = 3 ∨ 4 ≤ y := by omega
  clear hy
  rcases hy5 with rfl | rfl | rfl | rfl | hy4
  · go_wp2_with fail
    refine (spec_l1Int g _ [0, 8, 9] _ _ _ _ (hc4.alloc _) rfl (by decide) (heap_alloc_new w4 _) (by omega) (by decide)).mono ?_
    rintro e w5 ⟨z, hz, rfl, hc5, hg5⟩
    have hzr : (Lit.int .i64 z).wf = true := wf64 z (by
      simp only [List.mem_cons, List.not_mem_nil, or_false] at hz
      omega)
    have hp5 := (hg5.block w2.heap.size (by simp; omega) (by simp; omega)).trans ((Below.heap_alloc w4 _ w2.heap.size hs4).trans hp4)
    have hr5 := (hg5.block w.heap.size (by simp; omega) (by simp; omega)).trans ((Below.heap_alloc w4 _ w.heap.size (by omega)).trans hr4)
    have HG5 : Hid (w.grownBy w5 (some g)) := Lib.hid (only_trans HG4.out (only_new hg5))
    clear hg5 hp4 hr4 hc4 HG4 hz
    have s5 := lt_of_block hp5
    have c0 := cell_of_row w5 _ 0 _ _ _ hp5
    have c1 := cell_of_row w5 _ 1 _ _ _ hp5
    have c2 := cell_of_row w5 _ 2 _ _ _ hp5
    have c3 := cell_of_row w5 _ 3 _ _ _ hp5
    have cf : ∀ j, w5.frozen? ⟨w2.heap.size, j, none⟩ = false := fun j => frozen_of_row _ _ j _ _ hp5
    have r0 := cell_of_row w5 _ 0 _ _ _ hr5
    have r1 := cell_of_row w5 _ 1 _ _ _ hr5
    have r2 := cell_of_row w5 _ 2 _ _ _ hr5
    have r3 := cell_of_row w5 _ 3 _ _ _ hr5
    have rf : ∀ j, w5.frozen? ⟨w.heap.size, j, none⟩ = false := fun j => frozen_of_row _ _ j _ _ hr5
    simp only [List.getElem?_toArray, List.getElem?_cons_succ, List.getElem?_cons_zero] at c0 c1 c2 c3 r0 r1 r2 r3
    clear hp5 hr5
    go_wp2
    refine bodyPost_ret (by rw [results_cell rfl]; go_simp; try rfl) rfl ?_
    exact ⟨⟨z, p1, p2, p3⟩, ⟨by assumption, by assumption, by assumption, by assumption⟩, rfl, (((((hc5.fresh (by omega)).fresh (by omega)).fresh (by omega)).fresh (by omega)).fresh (by omega)), only_fresh (only_fresh (only_fresh (only_fresh (only_fresh HG5.out (by omega) _) (Nat.le_refl _) _) (Nat.le_refl _) _) (Nat.le_refl _) _) (Nat.le_refl _) _⟩
  · go_wp2_with fail
    refine (spec_l4Raw g _ hc4).mono ?_
    rintro e w5 ⟨z, hz, rfl, hc5, hg5⟩
    have hzr : (Lit.int .i64 z).wf = true := wf64 z hz
    have hp5 := (hg5.block w2.heap.size (by omega) (by simp; omega)).trans hp4
    have hr5 := (hg5.block w.heap.size (by omega) (by simp; omega)).trans hr4
    have HG5 : Hid (w.grownBy w5 (some g)) := Lib.hid (only_trans HG4.out hg5)
    clear hg5 hp4 hr4 hc4 HG4 hz
    have s5 := lt_of_block hp5
    have c0 := cell_of_row w5 _ 0 _ _ _ hp5
    have c1 := cell_of_row w5 _ 1 _ _ _ hp5
    have c2 := cell_of_row w5 _ 2 _ _ _ hp5
    have c3 := cell_of_row w5 _ 3 _ _ _ hp5
    have cf : ∀ j, w5.frozen? ⟨w2.heap.size, j, none⟩ = false := fun j => frozen_of_row _ _ j _ _ hp5
    have r0 := cell_of_row w5 _ 0 _ _ _ hr5
    have r1 := cell_of_row w5 _ 1 _ _ _ hr5
    have r2 := cell_of_row w5 _ 2 _ _ _ hr5
    have r3 := cell_of_row w5 _ 3 _ _ _ hr5
    have rf : ∀ j, w5.frozen? ⟨w.heap.size, j, none⟩ = false := fun j => frozen_of_row _ _ j _ _ hr5
    simp only [List.getElem?_toArray, List.getElem?_cons_succ, List.getElem?_cons_zero] at c0 c1 c2 c3 r0 r1 r2 r3
    clear hp5 hr5
    go_wp2
    refine bodyPost_ret (by rw [results_cell rfl]; go_simp; try rfl) rfl ?_
    exact ⟨⟨p0, z, p2, p3⟩, ⟨by assumption, by assumption, by assumption, by assumption⟩, rfl, (((((hc5.fresh (by omega)).fresh (by omega)).fresh (by omega)).fresh (by omega)).fresh (by omega)), only_fresh (only_fresh (only_fresh (only_fresh (only_fresh HG5.out (by omega) _) (Nat.le_refl _) _) (Nat.le_refl _) _) (Nat.le_refl _) _) (Nat.le_refl _) _⟩
  · go_wp2_with fail
    refine (spec_l1Int g _ [-1, 1000000, 1000001] _ _ _ _ (hc4.alloc _) rfl (by decide) (heap_alloc_new w4 _) (by omega) (by decide)).mono ?_
    rintro e w5 ⟨z, hz, rfl, hc5, hg5⟩
    have hzr : (Lit.int .i64 z).wf = true := wf64 z (by
      simp only [List.mem_cons, List.not_mem_nil, or_false] at hz
      omega)
    have hp5 := (hg5.block w2.heap.size (by simp; omega) (by simp; omega)).trans ((Below.heap_alloc w4 _ w2.heap.size hs4).trans hp4)
    have hr5 := (hg5.block w.heap.size (by simp; omega) (by simp; omega)).trans ((Below.heap_alloc w4 _ w.heap.size (by omega)).trans hr4)
    have HG5 : Hid (w.grownBy w5 (some g)) := Lib.hid (only_trans HG4.out (only_new hg5))
    clear hg5 hp4 hr4 hc4 HG4 hz
    have s5 := lt_of_block hp5
    have c0 := cell_of_row w5 _ 0 _ _ _ hp5
    have c1 := cell_of_row w5 _ 1 _ _ _ hp5
    have c2 := cell_of_row w5 _ 2 _ _ _ hp5
    have c3 := cell_of_row w5 _ 3 _ _ _ hp5
    have cf : ∀ j, w5.frozen? ⟨w2.heap.size, j, none⟩ = false := fun j => frozen_of_row _ _ j _ _ hp5
    have r0 := cell_of_row w5 _ 0 _ _ _ hr5
    have r1 := cell_of_row w5 _ 1 _ _ _ hr5
    have r2 := cell_of_row w5 _ 2 _ _ _ hr5
    have r3 := cell_of_row w5 _ 3 _ _ _ hr5
    have rf : ∀ j, w5.frozen? ⟨w.heap.size, j, none⟩ = false := fun j => frozen_of_row _ _ j _ _ hr5
    simp only [List.getElem?_toArray, List.getElem?_cons_succ, List.getElem?_cons_zero] at c0 c1 c2 c3 r0 r1 r2 r3
    clear hp5 hr5
    go_wp2
    refine bodyPost_ret (by rw [results_cell rfl]; go_simp; try rfl) rfl ?_
    exact ⟨⟨p0, p1, z, p3⟩, ⟨by assumption, by assumption, by assumption, by assumption⟩, rfl, (((((hc5.fresh (by omega)).fresh (by omega)).fresh (by omega)).fresh (by omega)).fresh (by omega)), only_fresh (only_fresh (only_fresh (only_fresh (only_fresh HG5.out (by omega) _) (Nat.le_refl _) _) (Nat.le_refl _) _) (Nat.le_refl _) _) (Nat.le_refl _) _⟩
  · go_wp2_with fail
    refine (spec_l1Int g _ [-1, 200, 201] _ _ _ _ (hc4.alloc _) rfl (by decide) (heap_alloc_new w4 _) (by omega) (by decide)).mono ?_
    rintro e w5 ⟨z, hz, rfl, hc5, hg5⟩
    have hzr : (Lit.int .i64 z).wf = true := wf64 z (by
      simp only [List.mem_cons, List.not_mem_nil, or_false] at hz
      omega)
    have hp5 := (hg5.block w2.heap.size (by simp; omega) (by simp; omega)).trans ((Below.heap_alloc w4 _ w2.heap.size hs4).trans hp4)
    have hr5 := (hg5.block w.heap.size (by simp; omega) (by simp; omega)).trans ((Below.heap_alloc w4 _ w.heap.size (by omega)).trans hr4)
    have HG5 : Hid (w.grownBy w5 (some g)) := Lib.hid (only_trans HG4.out (only_new hg5))
    clear hg5 hp4 hr4 hc4 HG4 hz
    have s5 := lt_of_block hp5
    have c0 := cell_of_row w5 _ 0 _ _ _ hp5
    have c1 := cell_of_row w5 _ 1 _ _ _ hp5
    have c2 := cell_of_row w5 _ 2 _ _ _ hp5
    have c3 := cell_of_row w5 _ 3 _ _ _ hp5
    have cf : ∀ j, w5.frozen? ⟨w2.heap.size, j, none⟩ = false := fun j => frozen_of_row _ _ j _ _ hp5
    have r0 := cell_of_row w5 _ 0 _ _ _ hr5
    have r1 := cell_of_row w5 _ 1 _ _ _ hr5
    have r2 := cell_of_row w5 _ 2 _ _ _ hr5
    have r3 := cell_of_row w5 _ 3 _ _ _ hr5
    have rf : ∀ j, w5.frozen? ⟨w.heap.size, j, none⟩ = false := fun j => frozen_of_row _ _ j _ _ hr5
    simp only [List.getElem?_toArray, List.getElem?_cons_succ, List.getElem?_cons_zero] at c0 c1 c2 c3 r0 r1 r2 r3
    clear hp5 hr5
    go_wp2
    refine bodyPost_ret (by rw [results_cell rfl]; go_simp; try rfl) rfl ?_
    exact ⟨⟨p0, p1, p2, z⟩, ⟨by assumption, by assumption, by assumption, by assumption⟩, rfl, (((((hc5.fresh (by omega)).fresh (by omega)).fresh (by omega)).fresh (by omega)).fresh (by omega)), only_fresh (only_fresh (only_fresh (only_fresh (only_fresh HG5.out (by omega) _) (Nat.le_refl _) _) (Nat.le_refl _) _) (Nat.le_refl _) _) (Nat.le_refl _) _⟩
  · have n0 : ((y : Int) == 0) = false := by simp; omega
    have n1 : ((y : Int) == 1) = false := by simp; omega
    have n2 : ((y : Int) == 2) = false := by simp; omega
    have n3 : ((y : Int) == 3) = false := by simp; omega
    have hp5 := hp4
    have hr5 := hr4
    clear hp4 hr4
    have c0 := cell_of_row w4 _ 0 _ _ _ hp5
    have c1 := cell_of_row w4 _ 1 _ _ _ hp5
    have c2 := cell_of_row w4 _ 2 _ _ _ hp5
    have c3 := cell_of_row w4 _ 3 _ _ _ hp5
    have cf : ∀ j, w4.frozen? ⟨w2.heap.size, j, none⟩ = false := fun j => frozen_of_row _ _ j _ _ hp5
    have r0 := cell_of_row w4 _ 0 _ _ _ hr5
    have r1 := cell_of_row w4 _ 1 _ _ _ hr5
    have r2 := cell_of_row w4 _ 2 _ _ _ hr5
    have r3 := cell_of_row w4 _ 3 _ _ _ hr5
    have rf : ∀ j, w4.frozen? ⟨w.heap.size, j, none⟩ = false := fun j => frozen_of_row _ _ j _ _ hr5
    simp only [List.getElem?_toArray, List.getElem?_cons_succ, List.getElem?_cons_zero] at c0 c1 c2 c3 r0 r1 r2 r3
    clear hp5 hr5
    go_wp2
    refine bodyPost_ret (by rw [results_cell rfl]; go_simp; try rfl) rfl ?_
    exact ⟨⟨p0, p1, p2, p3⟩, ⟨by assumption, by assumption, by assumption, by assumption⟩, rfl, ((((hc4.fresh (by omega)).fresh (by omega)).fresh (by omega)).fresh (by omega)), only_fresh (only_fresh (only_fresh (only_fresh HG4.out (Nat.le_refl _) _) (Nat.le_refl _) _) (Nat.le_refl _) _) (Nat.le_refl _) _⟩
set_option maxHeartbeats 2000000 in
theorem spec_DrawLinkState (A : Option Addr) (n c B : Nat) (zs : List Int) (w : World) (hb : Bytes w B A n zs) (hB : B ≤ w.heap.size) (hn : n ≤ 1048576) :
    Calls Try.prog 58 #[.slice A n c] w fun e w' => ∃ (p : Lnk) (m : Int), p.wf ∧ (-1 ≤ m ∧ m ≤ 1000001) ∧ e = .returned (.tuple #[p.val, .int .i64 m]) ∧ Below w.heap.size w w' := by
  have hba : Below w.heap.size w (w.alloc (.cells #[.int .i64 0, .int .i64 0, .int .i64 0, .int .i64 0] 74)) := (Below.refl _ _).alloc (Nat.le_refl _) _
  have hbz := hb.below (hba.mono hB)
  go_enter Try.func58, Try.ntmps58
  go_wp2_with fail
  refine (spec_l1New A n c B zs _ hbz (by simp; omega) hn).mono ?_
  rintro e w1 ⟨rfl, hc1, hb1⟩
  simp only [World.size_alloc] at hc1 hb1
  have hlt := hc1.lt
  have hra1 := (hb1.block w.heap.size (by omega)).trans (heap_alloc_new w _)
  have hbl1 := hba.trans (hb1.mono (by omega))
  clear hb1 hba hbz hb
  go_wp2_with fail
  refine (spec_l23Any (w.heap.size + 1) _ hc1).mono ?_
  rintro e w2 ⟨⟨p0, p1, p2, p3⟩, hpw, rfl, hc2, hg2⟩
  simp only [Lnk.val]
  have hra2 := (hg2.block w.heap.size (by omega) (by simp)).trans hra1
  have hbl2 := hbl1.trans (below_of_only hg2 (by omega) hbl1.size)
  have hcl2 := hc2.lt
  clear hra1 hbl1 hg2 hc1
  go_wp2
  have hX := heap_alloc_new w2 (.cells #[.int .i64 p0, .int .i64 p1, .int .i64 p2, .int .i64 p3] 74)
  have hra3 := (Below.heap_alloc w2 (.cells #[.int .i64 p0, .int .i64 p1, .int .i64 p2, .int .i64 p3] 74) w.heap.size (by omega)).trans hra2
  have hc3 := hc2.alloc (.cells #[.int .i64 p0, .int .i64 p1, .int .i64 p2, .int .i64 p3] 74)
  have hbl3 := hbl2.alloc hbl2.size (.cells #[.int .i64 p0, .int .i64 p1, .int .i64 p2, .int .i64 p3] 74)
  have hs3 : w2.heap.size < (w2.alloc (.cells #[.int .i64 p0, .int .i64 p1, .int .i64 p2, .int .i64 p3] 74)).heap.size := by simp
  generalize hw3 : w2.alloc (.cells #[.int .i64 p0, .int .i64 p1, .int .i64 p2, .int .i64 p3] 74) = w3 at *
  clear hw3 hra2 hc2 hbl2
  have z0 := cell_of_row w3 _ 0 _ _ _ hX
  have z1 := cell_of_row w3 _ 1 _ _ _ hX
  have z2 := cell_of_row w3 _ 2 _ _ _ hX
  have z3 := cell_of_row w3 _ 3 _ _ _ hX
  simp only [List.getElem?_toArray, List.getElem?_cons_succ, List.getElem?_cons_zero] at z0 z1 z2 z3
  have hmx : Try.prog.follows .mixedOrders = true := by kernel_rfl
  have hcd := hc3.drew
  have hrad : w3.drew.heap[w.heap.size]? = _ := hra3
  have hXd : w3.drew.heap[w2.heap.size]? = _ := hX
  have hbld : Below w.heap.size w w3.drew := belowN hbl3 1
  have hsd : w2.heap.size < w3.drew.heap.size := hs3
  refine wp_region_held_drew (S := fun W' => W'.cell? ⟨w2.heap.size, 0, none⟩ = some (.int .i64 p0) ∧ W'.cell? ⟨w2.heap.size, 1, none⟩ = some (.int .i64 p1) ∧ W'.cell? ⟨w2.heap.size, 2, none⟩ = some (.int .i64 p2) ∧ W'.cell? ⟨w2.heap.size, 3, none⟩ = some (.int .i64 p3)) hmx ⟨z0, z1, z2, z3⟩ (fun hH => ?_)
  refine wpAnyH_take (i := 0) (v := .agg #[.int .i64 p0, .int .i64 p1, .int .i64 p2, .int .i64 p3]) rfl (by kernel_rfl) (by kernel_rfl) (by kernel_rfl) (fun _ _ _ h => h) (Or.inl ⟨by rfl, by intro W' hW; obtain ⟨k0, k1, k2, k3⟩ := hW; go_simp⟩) hH ?_
  try simp only [Act.put, List.setIfInBounds_toArray, List.set_cons_zero, List.set_cons_succ]
  refine wpAnyH_take (i := 1) (v := .pointer (some ⟨w.heap.size + 1, 0, none⟩)) rfl (by kernel_rfl) (by kernel_rfl) (by kernel_rfl) (fun _ _ _ h => h) (Or.inl ⟨by rfl, by intro W' hW; go_simp⟩) hH ?_
  try simp only [Act.put, List.setIfInBounds_toArray, List.set_cons_zero, List.set_cons_succ]
  generalize w3.drew = w4 at *
  refine wpAnyH_ready (rs := [2]) (by decide +kernel) (by simp) (AllReadyH.cons rfl (fun K hK => ?_) AllReadyH.nil)
  go_simp
  generalize hob : Obj.cells #[Value.int .i64 0, Value.int .i64 49, Value.int .i64 60, Value.int .i64 79, Value.int .i64 80, Value.int .i64 200, Value.int .i64 330, Value.int .i64 349, Value.int .i64 350, Value.int .i64 1000000, Value.int .i64 1000001, Value.int .i64 (-1)] 3 = ob
  have hL := heap_alloc_new w4 ob
  have hXe := (Below.heap_alloc w4 ob w2.heap.size hsd).trans hXd
  have hrae := (Below.heap_alloc w4 ob w.heap.size (by omega)).trans hrad
  have hce := hcd.alloc ob
  have hble := hbld.alloc hbld.size ob
  have hLsz : w4.heap.size < (w4.alloc ob).heap.size := by simp
  have hne4 : w4.heap.size ≠ w.heap.size + 1 := by omega
  generalize w4.alloc ob = w5 at *
  have k0 := cell_of_row w5 _ 0 _ _ _ hXe
  have k1 := cell_of_row w5 _ 1 _ _ _ hXe
  have k2 := cell_of_row w5 _ 2 _ _ _ hXe
  have k3 := cell_of_row w5 _ 3 _ _ _ hXe
  simp only [List.getElem?_toArray, List.getElem?_cons_succ, List.getElem?_cons_zero] at k0 k1 k2 k3
  refine hK.out _ _ ⟨k0, k1, k2, k3⟩ (fun _ => ?_)
  clear hK K
  try simp only [Act.put, List.setIfInBounds_toArray, List.set_cons_zero, List.set_cons_succ]
  refine wpAnyH_ready (rs := [3]) (by decide +kernel) (by simp) (AllReadyH.cons rfl (fun K hK => ?_) AllReadyH.nil)
  go_simp
  refine (spec_l1Int (w.heap.size + 1) w4.heap.size [0, 49, 60, 79, 80, 200, 330, 349, 350, 1000000, 1000001, -1] _ _ _ _ hce rfl (by decide) (hL.trans (congrArg some hob.symm)) hne4 (by decide)).mono ?_
  rintro e w6 ⟨z, hz, rfl, hc6, hg6⟩
  have hr : -1 ≤ z ∧ z ≤ 1000001 := by
    simp only [List.mem_cons, List.not_mem_nil, or_false] at hz
    omega
  clear hz
  have hbl6 := hble.trans (below_of_only hg6 (by omega) hble.size)
  have hX6 := (hg6.block w2.heap.size (by omega) (by simp; omega)).trans hXe
  have hra6 := (hg6.block w.heap.size (by omega) (by simp)).trans hrae
  go_wp2_with fail
  have k0 := cell_of_row w6 _ 0 _ _ _ hX6
  have k1 := cell_of_row w6 _ 1 _ _ _ hX6
  have k2 := cell_of_row w6 _ 2 _ _ _ hX6
  have k3 := cell_of_row w6 _ 3 _ _ _ hX6
  have r0 := cell_of_row w6 _ 0 _ _ _ hra6
  have r1 := cell_of_row w6 _ 1 _ _ _ hra6
  have r2 := cell_of_row w6 _ 2 _ _ _ hra6
  have r3 := cell_of_row w6 _ 3 _ _ _ hra6
  have rf : ∀ j, w6.frozen? ⟨w.heap.size, j, none⟩ = false := fun j => frozen_of_row _ _ j _ _ hra6
  simp only [List.getElem?_toArray, List.getElem?_cons_succ, List.getElem?_cons_zero] at k0 k1 k2 k3 r0 r1 r2 r3
  have n1 : w.heap.size ≠ w2.heap.size := by omega
  have HBL := Lib.hid hbl6
  have HPW := Lib.hid hpw
  have hsk : ∀ (W : World) (b o : Nat) (u : Value) (j : Nat), b ≠ w2.heap.size → (W.setCell ⟨b, o, none⟩ u).cell? ⟨w2.heap.size, j, none⟩ = W.cell? ⟨w2.heap.size, j, none⟩ := fun W b o u j hb => World.cell?_setCell_other _ _ _ _ (by simp <;> omega)
  refine hK.out _ _ ⟨k0, k1, k2, k3⟩ (fun _ => ?_)
  clear hK K hg6 hX6 hra6 hbl6 hXe hrae hce hble hLsz hL hob hcd hrad hXd hbld hsd hpw hH hX hra3 hc3 hbl3 hs3 z0 z1 z2 z3
  try simp only [Act.put, List.setIfInBounds_toArray, List.set_cons_zero, List.set_cons_succ]
  refine wpAnyH_ready (rs := [4]) (by decide +kernel) (by simp) (AllReadyH.cons rfl (fun K hK => ?_) AllReadyH.nil)
  go_simp
  refine hK.out _ _ ⟨by rw [hsk _ _ _ _ _ n1, hsk _ _ _ _ _ n1, hsk _ _ _ _ _ n1, hsk _ _ _ _ _ n1]; exact k0, by rw [hsk _ _ _ _ _ n1, hsk _ _ _ _ _ n1, hsk _ _ _ _ _ n1, hsk _ _ _ _ _ n1]; exact k1, by rw [hsk _ _ _ _ _ n1, hsk _ _ _ _ _ n1, hsk _ _ _ _ _ n1, hsk _ _ _ _ _ n1]; exact k2, by rw [hsk _ _ _ _ _ n1, hsk _ _ _ _ _ n1, hsk _ _ _ _ _ n1, hsk _ _ _ _ _ n1]; exact k3⟩ (fun _ => ?_)
  clear hK K
  try simp only [Act.put, List.setIfInBounds_toArray, List.set_cons_zero, List.set_cons_succ]
  refine wpAnyH_ready (rs := [5]) (by decide +kernel) (by simp) (AllReadyH.cons rfl (fun K hK => ?_) AllReadyH.nil)
  go_simp
  refine hK.out _ _ ⟨by rw [hsk _ _ _ _ _ n1, hsk _ _ _ _ _ n1, hsk _ _ _ _ _ n1, hsk _ _ _ _ _ n1]; exact k0, by rw [hsk _ _ _ _ _ n1, hsk _ _ _ _ _ n1, hsk _ _ _ _ _ n1, hsk _ _ _ _ _ n1]; exact k1, by rw [hsk _ _ _ _ _ n1, hsk _ _ _ _ _ n1, hsk _ _ _ _ _ n1, hsk _ _ _ _ _ n1]; exact k2, by rw [hsk _ _ _ _ _ n1, hsk _ _ _ _ _ n1, hsk _ _ _ _ _ n1, hsk _ _ _ _ _ n1]; exact k3⟩ (fun _ => ?_)
  clear hK K
  try simp only [Act.put, List.setIfInBounds_toArray, List.set_cons_zero, List.set_cons_succ]
  clear hsk
  refine wpAnyH_done (by decide +kernel) ?_ _
  go_wp2
  refine bodyPost_ret (by rw [results_cell_tmpF rfl]; go_simp; try rfl) rfl ?_
  exact ⟨⟨p0, p1, p2, p3⟩, z, HPW.out, hr, rfl, (((HBL.out.setCell (Nat.le_refl _) _).setCell (Nat.le_refl _) _).setCell (Nat.le_refl _) _).setCell (Nat.le_refl _) _⟩
theorem results_c3F {fn : Func} {p q r s : Tmp} {ty : TypeId} (h : fn.results = #[.cell p ty, .tmp q, .tmp r, .tmp s]) (tmps : Array Value) (P : Program) (w : World) :
    (results fn tmps).run P w = ((asAddr (tmps.getD p undef)).run P w).andThen fun a w₁ => ((loadVar ty a).run P w₁).andThen fun v w₂ => .ok (.tuple #[v, tmps.getD q undef, tmps.getD r undef, tmps.getD s undef]) w₂ := by
  simp only [results, h]
  simp [Sem.run_bind, Result.andThen]
theorem grown_set (w : World) (b o : Nat) (u : Value) : w.grownBy (w.setCell ⟨b, o, none⟩ u) (some b) :=
  ⟨rfl, rfl, rfl, by simp [World.setCell], fun k hk hne => Below.heap_setCell w _ u k (by intro e; apply hne; simp at e; rw [e])⟩
set_option maxHeartbeats 2000000 in
theorem spec_DrawHearLink (A : Option Addr) (n c B : Nat) (zs : List Int) (w : World) (hb : Bytes w B A n zs) (hB : B ≤ w.heap.size) (hn : n ≤ 1048576) :
    Calls Try.prog 61 #[.slice A n c] w fun e w' => ∃ (p : Lnk) (s t o : Int), p.wf ∧ (0 ≤ s ∧ s ≤ 11) ∧ (0 ≤ t ∧ t ≤ 1000001) ∧ (-1 ≤ o ∧ o ≤ 201) ∧ e = .returned (.tuple #[p.val, .int .i64 s, .int .i64 t, .int .i64 o]) ∧ Below w.heap.size w w' := by
  have hba : Below w.heap.size w (w.alloc (.cells #[.int .i64 0, .int .i64 0, .int .i64 0, .int .i64 0] 74)) := (Below.refl _ _).alloc (Nat.le_refl _) _
  have hbz := hb.below (hba.mono hB)
  go_enter Try.func61, Try.ntmps61
  go_wp2_with fail
  refine (spec_l1New A n c B zs _ hbz (by simp; omega) hn).mono ?_
  rintro e w1 ⟨rfl, hc1, hb1⟩
  simp only [World.size_alloc] at hc1 hb1
  have hlt := hc1.lt
  have hra1 := (hb1.block w.heap.size (by omega)).trans (heap_alloc_new w _)
  have hbl1 := hba.trans (hb1.mono (by omega))
  clear hb1 hba hbz hb
  go_wp2_with fail
  refine (spec_l23Any (w.heap.size + 1) _ hc1).mono ?_
  rintro e w2 ⟨⟨p0, p1, p2, p3⟩, hpw, rfl, hc2, hg2⟩
  simp only [Lnk.val]
  have hra2 := (hg2.block w.heap.size (by omega) (by simp)).trans hra1
  have hbl2 := hbl1.trans (below_of_only hg2 (by omega) hbl1.size)
  have hcl2 := hc2.lt
  clear hra1 hbl1 hg2 hc1
  go_wp2_with fail
  have hXa := heap_alloc_new w2 (.cells #[.int .i64 p0, .int .i64 p1, .int .i64 p2, .int .i64 p3] 74)
  have hra3a := (Below.heap_alloc w2 (.cells #[.int .i64 p0, .int .i64 p1, .int .i64 p2, .int .i64 p3] 74) w.heap.size (by omega)).trans hra2
  have hc3a := hc2.alloc (.cells #[.int .i64 p0, .int .i64 p1, .int .i64 p2, .int .i64 p3] 74)
  have hbl3a := hbl2.alloc hbl2.size (.cells #[.int .i64 p0, .int .i64 p1, .int .i64 p2, .int .i64 p3] 74)
  have hs3a : w2.heap.size < (w2.alloc (.cells #[.int .i64 p0, .int .i64 p1, .int .i64 p2, .int .i64 p3] 74)).heap.size := by simp
  generalize hw3q : w2.alloc (.cells #[.int .i64 p0, .int .i64 p1, .int .i64 p2, .int .i64 p3] 74) = w3a at *
  clear hw3q hra2 hc2 hbl2
  refine (spec_l1Below (w.heap.size + 1) 12 _ hc3a (by omega)).mono ?_
  rintro e w3b ⟨sq, hsq, rfl, hc3b, hg3b⟩
  have hXb := (hg3b.block w2.heap.size hs3a (by simp; omega)).trans hXa
  have hra3b := (hg3b.block w.heap.size (by omega) (by simp)).trans hra3a
  have hbl3b := hbl3a.trans (below_of_only hg3b (by omega) hbl3a.size)
  have hs3b : w2.heap.size < w3b.heap.size := Nat.lt_of_lt_of_le hs3a hg3b.size
  clear hg3b hc3a hXa hra3a hbl3a hs3a
  go_wp2_with fail
  refine (spec_l1Int (w.heap.size + 1) _ [0, 20, 49, 60, 1000000, 1000001] _ _ _ _ (hc3b.alloc _) rfl (by decide) (heap_alloc_new w3b _) (by omega) (by decide)).mono ?_
  rintro e w3 ⟨t, ht, rfl, hc3, hg3⟩
  have htr : 0 ≤ t ∧ t ≤ 1000001 := by
    simp only [List.mem_cons, List.not_mem_nil, or_false] at ht
    omega
  clear ht
  have hg3s := hg3.size
  simp only [World.size_alloc] at hg3s
  have hX := (hg3.block w2.heap.size (by simp; omega) (by simp; omega)).trans ((Below.heap_alloc w3b _ w2.heap.size hs3b).trans hXb)
  have hra3 := (hg3.block w.heap.size (by simp; omega) (by simp)).trans ((Below.heap_alloc w3b _ w.heap.size (by omega)).trans hra3b)
  have hbl3 := hbl3b.trans (below_of_only (only_new hg3) (by omega) hbl3b.size)
  have hs3 : w2.heap.size < w3.heap.size := by omega
  clear hg3 hc3b hXb hra3b hbl3b hs3b hg3s
  go_wp2
  have z0 := cell_of_row w3 _ 0 _ _ _ hX
  have z1 := cell_of_row w3 _ 1 _ _ _ hX
  have z2 := cell_of_row w3 _ 2 _ _ _ hX
  have z3 := cell_of_row w3 _ 3 _ _ _ hX
  simp only [List.getElem?_toArray, List.getElem?_cons_succ, List.getElem?_cons_zero] at z0 z1 z2 z3
  have hmx : Try.prog.follows .mixedOrders = true := by kernel_rfl
  have hcd := hc3.drew
  have hrad : w3.drew.heap[w.heap.size]? = _ := hra3
  have hXd : w3.drew.heap[w2.heap.size]? = _ := hX
  have hbld : Below w.heap.size w w3.drew := belowN hbl3 1
  have hsd : w2.heap.size < w3.drew.heap.size := hs3
  refine wp_region_held_drew (S := fun W' => W'.cell? ⟨w2.heap.size, 0, none⟩ = some (.int .i64 p0) ∧ W'.cell? ⟨w2.heap.size, 1, none⟩ = some (.int .i64 p1) ∧ W'.cell? ⟨w2.heap.size, 2, none⟩ = some (.int .i64 p2) ∧ W'.cell? ⟨w2.heap.size, 3, none⟩ = some (.int .i64 p3)) hmx ⟨z0, z1, z2, z3⟩ (fun hH => ?_)
  refine wpAnyH_take (i := 0) (v := .agg #[.int .i64 p0, .int .i64 p1, .int .i64 p2, .int .i64 p3]) rfl (by kernel_rfl) (by kernel_rfl) (by kernel_rfl) (fun _ _ _ h => h) (Or.inl ⟨by rfl, by intro W' hW; obtain ⟨k0, k1, k2, k3⟩ := hW; go_simp⟩) hH ?_
  try simp only [Act.put, List.setIfInBounds_toArray, List.set_cons_zero, List.set_cons_succ]
  refine wpAnyH_take (i := 1) (v := .int .i64 (sq : Int)) rfl (by kernel_rfl) (by kernel_rfl) (by kernel_rfl) (fun _ _ _ h => h) (Or.inl ⟨by rfl, by intro W' hW; go_simp⟩) hH ?_
  try simp only [Act.put, List.setIfInBounds_toArray, List.set_cons_zero, List.set_cons_succ]
  refine wpAnyH_take (i := 2) (v := .int .i64 t) rfl (by kernel_rfl) (by kernel_rfl) (by kernel_rfl) (fun _ _ _ h => h) (Or.inl ⟨by rfl, by intro W' hW; go_simp⟩) hH ?_
  try simp only [Act.put, List.setIfInBounds_toArray, List.set_cons_zero, List.set_cons_succ]
  refine wpAnyH_take (i := 3) (v := .pointer (some ⟨w.heap.size + 1, 0, none⟩)) rfl (by kernel_rfl) (by kernel_rfl) (by kernel_rfl) (fun _ _ _ h => h) (Or.inl ⟨by rfl, by intro W' hW; go_simp⟩) hH ?_
  try simp only [Act.put, List.setIfInBounds_toArray, List.set_cons_zero, List.set_cons_succ]
  generalize w3.drew = w4 at *
  refine wpAnyH_ready (rs := [4]) (by decide +kernel) (by simp) (AllReadyH.cons rfl (fun K hK => ?_) AllReadyH.nil)
  go_simp
  generalize hob : Obj.cells #[Value.int .i64 0, Value.int .i64 7, Value.int .i64 200, Value.int .i64 201, Value.int .i64 (-1)] 3 = ob
  have hL := heap_alloc_new w4 ob
  have hXe := (Below.heap_alloc w4 ob w2.heap.size hsd).trans hXd
  have hrae := (Below.heap_alloc w4 ob w.heap.size (by omega)).trans hrad
  have hce := hcd.alloc ob
  have hble := hbld.alloc hbld.size ob
  have hLsz : w4.heap.size < (w4.alloc ob).heap.size := by simp
  have hne4 : w4.heap.size ≠ w.heap.size + 1 := by omega
  generalize w4.alloc ob = w5 at *
  have k0 := cell_of_row w5 _ 0 _ _ _ hXe
  have k1 := cell_of_row w5 _ 1 _ _ _ hXe
  have k2 := cell_of_row w5 _ 2 _ _ _ hXe
  have k3 := cell_of_row w5 _ 3 _ _ _ hXe
  simp only [List.getElem?_toArray, List.getElem?_cons_succ, List.getElem?_cons_zero] at k0 k1 k2 k3
  refine hK.out _ _ ⟨k0, k1, k2, k3⟩ (fun _ => ?_)
  clear hK K
  try simp only [Act.put, List.setIfInBounds_toArray, List.set_cons_zero, List.set_cons_succ]
  refine wpAnyH_ready (rs := [5]) (by decide +kernel) (by simp) (AllReadyH.cons rfl (fun K hK => ?_) AllReadyH.nil)
  go_simp
  refine (spec_l1Int (w.heap.size + 1) w4.heap.size [0, 7, 200, 201, -1] _ _ _ _ hce rfl (by decide) (hL.trans (congrArg some hob.symm)) hne4 (by decide)).mono ?_
  rintro e w6 ⟨z, hz, rfl, hc6, hg6⟩
  have hr : -1 ≤ z ∧ z ≤ 201 := by
    simp only [List.mem_cons, List.not_mem_nil, or_false] at hz
    omega
  clear hz
  have hbl6 := hble.trans (below_of_only hg6 (by omega) hble.size)
  have hX6 := (hg6.block w2.heap.size (by omega) (by simp; omega)).trans hXe
  have hra6 := (hg6.block w.heap.size (by omega) (by simp)).trans hrae
  go_wp2_with fail
  have k0 := cell_of_row w6 _ 0 _ _ _ hX6
  have k1 := cell_of_row w6 _ 1 _ _ _ hX6
  have k2 := cell_of_row w6 _ 2 _ _ _ hX6
  have k3 := cell_of_row w6 _ 3 _ _ _ hX6
  have r0 := cell_of_row w6 _ 0 _ _ _ hra6
  have r1 := cell_of_row w6 _ 1 _ _ _ hra6
  have r2 := cell_of_row w6 _ 2 _ _ _ hra6
  have r3 := cell_of_row w6 _ 3 _ _ _ hra6
  have rf : ∀ j, w6.frozen? ⟨w.heap.size, j, none⟩ = false := fun j => frozen_of_row _ _ j _ _ hra6
  simp only [List.getElem?_toArray, List.getElem?_cons_succ, List.getElem?_cons_zero] at k0 k1 k2 k3 r0 r1 r2 r3
  have n1 : w.heap.size ≠ w2.heap.size := by omega
  have HBL := Lib.hid hbl6
  have HPW := Lib.hid hpw
  have hsk : ∀ (W : World) (b o : Nat) (u : Value) (j : Nat), b ≠ w2.heap.size → (W.setCell ⟨b, o, none⟩ u).cell? ⟨w2.heap.size, j, none⟩ = W.cell? ⟨w2.heap.size, j, none⟩ := fun W b o u j hb => World.cell?_setCell_other _ _ _ _ (by simp <;> omega)
  refine hK.out _ _ ⟨k0, k1, k2, k3⟩ (fun _ => ?_)
  clear hK K hg6 hX6 hra6 hbl6 hXe hrae hce hble hLsz hL hob hcd hrad hXd hbld hsd hpw hH hX hra3 hc3 hbl3 hs3 z0 z1 z2 z3
  try simp only [Act.put, List.setIfInBounds_toArray, List.set_cons_zero, List.set_cons_succ]
  refine wpAnyH_ready (rs := [6]) (by decide +kernel) (by simp) (AllReadyH.cons rfl (fun K hK => ?_) AllReadyH.nil)
  go_simp
  refine hK.out _ _ ⟨by rw [hsk _ _ _ _ _ n1, hsk _ _ _ _ _ n1, hsk _ _ _ _ _ n1, hsk _ _ _ _ _ n1]; exact k0, by rw [hsk _ _ _ _ _ n1, hsk _ _ _ _ _ n1, hsk _ _ _ _ _ n1, hsk _ _ _ _ _ n1]; exact k1, by rw [hsk _ _ _ _ _ n1, hsk _ _ _ _ _ n1, hsk _ _ _ _ _ n1, hsk _ _ _ _ _ n1]; exact k2, by rw [hsk _ _ _ _ _ n1, hsk _ _ _ _ _ n1, hsk _ _ _ _ _ n1, hsk _ _ _ _ _ n1]; exact k3⟩ (fun _ => ?_)
  clear hK K
  try simp only [Act.put, List.setIfInBounds_toArray, List.set_cons_zero, List.set_cons_succ]
  refine wpAnyH_ready (rs := [7]) (by decide +kernel) (by simp) (AllReadyH.cons rfl (fun K hK => ?_) AllReadyH.nil)
  go_simp
  refine hK.out _ _ ⟨by rw [hsk _ _ _ _ _ n1, hsk _ _ _ _ _ n1, hsk _ _ _ _ _ n1, hsk _ _ _ _ _ n1]; exact k0, by rw [hsk _ _ _ _ _ n1, hsk _ _ _ _ _ n1, hsk _ _ _ _ _ n1, hsk _ _ _ _ _ n1]; exact k1, by rw [hsk _ _ _ _ _ n1, hsk _ _ _ _ _ n1, hsk _ _ _ _ _ n1, hsk _ _ _ _ _ n1]; exact k2, by rw [hsk _ _ _ _ _ n1, hsk _ _ _ _ _ n1, hsk _ _ _ _ _ n1, hsk _ _ _ _ _ n1]; exact k3⟩ (fun _ => ?_)
  clear hK K
  try simp only [Act.put, List.setIfInBounds_toArray, List.set_cons_zero, List.set_cons_succ]
  refine wpAnyH_ready (rs := [8]) (by decide +kernel) (by simp) (AllReadyH.cons rfl (fun K hK => ?_) AllReadyH.nil)
  go_simp
  refine hK.out _ _ ⟨by rw [hsk _ _ _ _ _ n1, hsk _ _ _ _ _ n1, hsk _ _ _ _ _ n1, hsk _ _ _ _ _ n1]; exact k0, by rw [hsk _ _ _ _ _ n1, hsk _ _ _ _ _ n1, hsk _ _ _ _ _ n1, hsk _ _ _ _ _ n1]; exact k1, by rw [hsk _ _ _ _ _ n1, hsk _ _ _ _ _ n1, hsk _ _ _ _ _ n1, hsk _ _ _ _ _ n1]; exact k2, by rw [hsk _ _ _ _ _ n1, hsk _ _ _ _ _ n1, hsk _ _ _ _ _ n1, hsk _ _ _ _ _ n1]; exact k3⟩ (fun _ => ?_)
  clear hK K
  try simp only [Act.put, List.setIfInBounds_toArray, List.set_cons_zero, List.set_cons_succ]
  refine wpAnyH_ready (rs := [9]) (by decide +kernel) (by simp) (AllReadyH.cons rfl (fun K hK => ?_) AllReadyH.nil)
  go_simp
  refine hK.out _ _ ⟨by rw [hsk _ _ _ _ _ n1, hsk _ _ _ _ _ n1, hsk _ _ _ _ _ n1, hsk _ _ _ _ _ n1]; exact k0, by rw [hsk _ _ _ _ _ n1, hsk _ _ _ _ _ n1, hsk _ _ _ _ _ n1, hsk _ _ _ _ _ n1]; exact k1, by rw [hsk _ _ _ _ _ n1, hsk _ _ _ _ _ n1, hsk _ _ _ _ _ n1, hsk _ _ _ _ _ n1]; exact k2, by rw [hsk _ _ _ _ _ n1, hsk _ _ _ _ _ n1, hsk _ _ _ _ _ n1, hsk _ _ _ _ _ n1]; exact k3⟩ (fun _ => ?_)
  clear hK K
  try simp only [Act.put, List.setIfInBounds_toArray, List.set_cons_zero, List.set_cons_succ]
  clear hsk
  refine wpAnyH_done (by decide +kernel) ?_ _
  go_wp2
  refine bodyPost_ret (by rw [results_c3F rfl]; go_simp; try rfl) rfl ?_
  exact ⟨⟨p0, p1, p2, p3⟩, sq, t, z, HPW.out, ⟨by omega, by omega⟩, htr, hr, rfl, (((HBL.out.setCell (Nat.le_refl _) _).setCell (Nat.le_refl _) _).setCell (Nat.le_refl _) _).setCell (Nat.le_refl _) _⟩
theorem results_tmp2 {fn : Func} {p q : Tmp} (h : fn.results = #[.tmp p, .tmp q]) (tmps : Array Value) (P : Program) (w : World) :
    (results fn tmps).run P w = .ok (.tuple #[tmps.getD p undef, tmps.getD q undef]) w := by
  simp only [results, h]
  simp [Sem.run_bind, Result.andThen]
theorem info_i64D : (Try.prog.info? 3).map (fun i => (i.zero, i.size, i.bytes)) = some (some (.int .i64 0), 1, 8) := by kernel_rfl
theorem info_lnkD : (Try.prog.info? 74).map (fun i => (i.zero, i.size, i.bytes)) = some (some (.agg #[.int .i64 0, .int .i64 0, .int .i64 0, .int .i64 0]), 4, 32) := by kernel_rfl
theorem lnkcells_snoc (zs : List Lnk) (p : Lnk) : lnkcells (zs ++ [p]) = lnkcells zs ++ [.int .i64 p.peer, .int .i64 p.seq, .int .i64 p.heard, .int .i64 p.offset] := by simp [lnkcells, Lnk.cells]
set_option maxRecDepth 100000 in
set_option maxHeartbeats 2000000 in
theorem spec_DrawInStep (A : Option Addr) (n c B : Nat) (zs : List Int) (w : World) (hb : Bytes w B A n zs) (hB : B ≤ w.heap.size) (hn : n ≤ 1048576) :
    Calls Try.prog 64 #[.slice A n c] w fun e w' => ∃ (A' : Option Addr) (n' c' : Nat) (l : List Lnk) (m : Int), n' ≤ 2 ∧ (0 ≤ m ∧ m ≤ 80) ∧ e = .returned (.tuple #[.slice A' n' c', .int .i64 m]) ∧ LnksAt w' w'.heap.size A' n' l ∧ Below w.heap.size w w' := by
  go_enter Try.func64, Try.ntmps64
  go_wp2_with fail
  refine (spec_l1New A n c B zs _ hb hB hn).mono ?_
  rintro e w1 ⟨rfl, hc1, hb1⟩
  have hlt := hc1.lt
  have hrow0 : (w1.alloc (.cells #[] 74)).ownsRow (w.heap.size + 1) 74 4 (.slice (some ⟨w1.heap.size, 0, none⟩) 0 0) 0 [] := ⟨rfl, .inr ⟨w1.heap.size, 0, #[], rfl, hlt, heap_alloc_new w1 _, Nat.le_refl _, by decide, rfl, rfl⟩⟩
  have hb1a := hb1.alloc hb1.size (.cells #[] 74)
  have hc1a := hc1.alloc (.cells #[] 74)
  have hne1 : w1.heap.size ≠ w.heap.size := by omega
  clear hb hb1 hc1
  go_wp2_with fail
  refine (spec_l1Below w.heap.size 3 _ hc1a (by omega)).mono ?_
  rintro e w2 ⟨x, hx, rfl, hc2, hg2⟩
  have hrow2 := ownr_grown hrow0 hg2 (by intro g e; simp only [Value.ownBlock, Option.map_some, Option.some.injEq] at e; subst e; simp; omega)
  have hb2 := hb1a.trans (below_of_only hg2 (Nat.le_refl _) hb1a.size)
  clear hrow0 hg2 hb1a hc1a
  go_wp2
  go_loopw [5, 6] (fun v i wr => ∃ (k q : Nat) (l : List Lnk), q + k ≤ 2 ∧ i = .int .i64 k ∧ l.length = q ∧ wr.ownsRow (w.heap.size + 1) 74 4 v q (lnkcells l) ∧ Curs wr w.heap.size ∧ Below w.heap.size w wr) (fun _ i _ => (intOf i).toNat)
  case atStart => exact ⟨x, 0, [], by omega, rfl, rfl, hrow2, hc2, hb2⟩
  case round =>
    clear hrow2 hc2 hb2
    obtain ⟨k, q, l, hk, rfl, hl, hrow, hcr, hbl⟩ := hrel
    have hsz := hbl.size
    by_cases hk0 : 0 < k
    · have i1 : ((k : Int) > 0) := by omega
      have hwk : IntKind.i64.wrap ((k : Int) - 1) = ((k - 1 : Nat) : Int) := by rw [IntKind.wrap_i64]; omega
      have HK := Lib.hid hk0
      clear hk0
      go_wp2_with fail
      refine (spec_l23Any w.heap.size _ hcr).mono ?_
      rintro e w3 ⟨⟨p0, p1, p2, p3⟩, hpw, rfl, hc3, hg3⟩
      simp only [Lnk.val]
      have hrow3 := ownr_grown hrow hg3 (by intro g e; have := (ownr_block hrow g e).1; simp; omega)
      have hb3 := hbl.trans (below_of_only hg3 (Nat.le_refl _) hsz)
      have hs3 := hb3.size
      have hl3 := hc3.lt
      have HL : Hid (lnkcells (l ++ [⟨p0, p1, p2, p3⟩]) = lnkcells l ++ [.int .i64 p0, .int .i64 p1, .int .i64 p2, .int .i64 p3]) := Lib.hid (lnkcells_snoc l ⟨p0, p1, p2, p3⟩)
      have HLL := Lib.hid hl
      have HC3 := Lib.hid hc3
      have HB3 := Lib.hid hb3
      clear hg3 hrow hcr hbl hpw hl hc3 hb3
      go_wp2_with (at_builtin; refine wpList_appR1 rfl _ _ 87 rfl 74 _ 4 32 Try.underlying87 info_lnkD rfl (by decide) (by decide) (w.heap.size + 1) _ _ _ rfl hrow3 (by omega) [.int .i64 p0, .int .i64 p1, .int .i64 p2, .int .i64 p3] rfl (by simp [Value.oneCell']) _ _ w3.heap.size hl3 rfl (by simp) ?_; intro v4 w4 hr4 hgrow4 hat4; clear hat4)
      have HC4 := Lib.hid (HC3.out.below (ownr_push hrow3 (Nat.le_refl _) ((Below.refl _ _).alloc hl3 _) (by simp; omega) hgrow4))
      have HB4 := Lib.hid (ownr_push hrow3 (Nat.le_succ _) (HB3.out.alloc hs3 _) (by simp; omega) hgrow4)
      have HR4 := Lib.hid hr4
      clear hgrow4 hr4 hrow3
      go_roundw
      case rel => exact ⟨k - 1, q + 1, l ++ [⟨p0, p1, p2, p3⟩], by have := HK.out; omega, rfl, by have := HLL.out; simp; omega, by rw [HL.out]; exact HR4.out, HC4.out, HB4.out⟩
      case measure => have := HK.out; simp [intOf]; omega
    · have i1 : ¬ ((k : Int) > 0) := by omega
      clear hk0
      go_wp2_with fail
      refine (spec_l1Int w.heap.size _ [0, 30, 50, 60, 80] _ _ _ _ (hcr.alloc _) rfl (by decide) (heap_alloc_new wr _) (by have := hcr.lt; omega) (by decide)).mono ?_
      rintro e w5 ⟨z, hz, rfl, hc5, hg5⟩
      have hr : 0 ≤ z ∧ z ≤ 80 := by
        simp only [List.mem_cons, List.not_mem_nil, or_false] at hz
        omega
      clear hz
      have hrow5 := ownr_grown (World.ownsRow.alloc hrow _) hg5 (by intro g e; have := (ownr_block hrow g e).1; simp; omega)
      have HB5 := Lib.hid (hbl.trans (below_of_only (only_new hg5) (Nat.le_refl _) hsz))
      obtain ⟨A', c', rfl⟩ := ownr_sliced hrow5
      have HROW := Lib.hid (show LnksAt w5 w5.heap.size A' q l from ⟨hl, ownr_cells hrow5⟩)
      clear hrow hbl hcr hg5 hrow5
      go_wp2
      refine bodyPost_ret (results_tmp2 rfl _ _ _) rfl ?_
      exact ⟨A', q, c', l, z, by omega, hr, rfl, HROW.out, HB5.out⟩
end Go.Proofs.Ytdlcjmdkafebpaa
