/- Contracts of the draws of chapter 4. -/
import Derived.Test.YtgdficjihkglpadDoorDraw
import Derived.Test.YtgdficjihkglpadDoorPath
import Derived.Deep.RegionHeld3
namespace Go.Proofs.YtgdficjihkglpadDoor
open Go.RowKit
set_option linter.unusedVariables false

theorem only_fresh {a w : World} {row : Option Nat} (h : a.grownBy w row) {b o : Nat} (hb : a.heap.size ≤ b) (u : Value) : a.grownBy (w.setCell ⟨b, o, none⟩ u) row :=
  ⟨h.os, h.tape, h.output, by simpa [World.setCell] using h.size, fun k hk hne => (Below.heap_setCell w _ u k (by simp; omega)).trans (h.block k hk hne)⟩
theorem Curs.fresh {w : World} {g b o : Nat} {u : Value} (h : Curs w g) (hb : g < b) : Curs (w.setCell ⟨b, o, none⟩ u) g := h.below ((Below.refl _ _).setCell (by simp; omega) u)
theorem Curs.drew {w : World} {g : Nat} (h : Curs w g) : Curs w.drew g := h.below ⟨rfl, rfl, rfl, Nat.le_refl _, fun _ _ => rfl⟩
theorem only_drew {a w : World} {row : Option Nat} (h : a.grownBy w row) : a.grownBy w.drew row := ⟨h.os, h.tape, h.output, h.size, h.block⟩
theorem wf64 (z : Int) (h : -9223372036854775808 ≤ z ∧ z ≤ 9223372036854775807) : (Lit.int .i64 z).wf = true := by
  show (decide (IntKind.i64.min ≤ z) && decide (z ≤ IntKind.i64.max)) = true
  simp only [Bool.and_eq_true, decide_eq_true_eq]
  exact h
theorem pwf {a b c d : Int} (ha : (Lit.int .i64 a).wf = true) (hb : -9223372036854775808 ≤ b ∧ b ≤ 9223372036854775807) (hc : -9223372036854775808 ≤ c ∧ c ≤ 9223372036854775807) (hd : -9223372036854775808 ≤ d ∧ d ≤ 9223372036854775807) : Pth.wf ⟨a, b, c, d⟩ := ⟨ha, wf64 b hb, wf64 c hc, wf64 d hd⟩
theorem tm4 (a : Int) : -4 < a.tmod 4 ∧ a.tmod 4 < 4 := ⟨Int.lt_tmod_of_pos a (by decide), Int.tmod_lt_of_pos a (by decide)⟩
set_option maxHeartbeats 1000000 in
theorem spec_l4Draw (g : Nat) (id : Int) (w : World) (h : Curs w g) (hid : (Lit.int .i64 id).wf = true) :
    Calls Tryd.prog 94 #[.pointer (some ⟨g, 0, none⟩), .int .i64 id] w fun e w' => ∃ p : Pth, p.wf ∧ p.id = id ∧ e = .returned p.val ∧ Curs w' g ∧ w.grownBy w' (some g) := by
  have hgl := h.lt
  go_enter Tryd.func94, Tryd.ntmps94
  go_wp2_with fail
  refine (spec_l1Below g 3 _ (h.alloc _) (by omega)).mono ?_
  rintro e w1 ⟨x, hx, rfl, hc1, hg1⟩
  go_wp2_with fail
  refine (spec_l1Below g 4 _ hc1 (by omega)).mono ?_
  rintro e w2 ⟨y, hy, rfl, hc2, hg2⟩
  have hrb : w2.heap[w.heap.size]? = some (.cells #[.int .i64 0, .int .i64 0, .int .i64 0, .int .i64 0] 43 (0, 0)) :=
    (hg2.block w.heap.size (by have := hg1.size; simp at this; omega) (by simp; omega)).trans ((hg1.block w.heap.size (by simp) (by simp; omega)).trans (heap_alloc_new w _))
  have hlt : w.heap.size < w2.heap.size := lt_of_block hrb
  have HG : Hid (w.grownBy w2 (some g)) := Lib.hid (only_trans (only_new hg1) hg2)
  have hb4 := fun o => (Below.heap_alloc w2 o w.heap.size hlt).trans hrb
  have hfr : ∀ o j, (w2.alloc o).frozen? ⟨w.heap.size, j, none⟩ = false := fun o j => frozen_of_row _ _ j _ _ (hb4 o)
  have q0 : ∀ o, (w2.alloc o).cell? ⟨w.heap.size, 0, none⟩ = some (.int .i64 0) := fun o => cell_of_row _ _ 0 _ _ _ (hb4 o)
  have q1 : ∀ o, (w2.alloc o).cell? ⟨w.heap.size, 1, none⟩ = some (.int .i64 0) := fun o => cell_of_row _ _ 1 _ _ _ (hb4 o)
  have q2 : ∀ o, (w2.alloc o).cell? ⟨w.heap.size, 2, none⟩ = some (.int .i64 0) := fun o => cell_of_row _ _ 2 _ _ _ (hb4 o)
  have q3 : ∀ o, (w2.alloc o).cell? ⟨w.heap.size, 3, none⟩ = some (.int .i64 0) := fun o => cell_of_row _ _ 3 _ _ _ (hb4 o)
  have hfr2 : ∀ j, w2.frozen? ⟨w.heap.size, j, none⟩ = false := fun j => frozen_of_row _ _ j _ _ hrb
  have r0 : w2.cell? ⟨w.heap.size, 0, none⟩ = some (.int .i64 0) := cell_of_row _ _ 0 _ _ _ hrb
  have r1 : w2.cell? ⟨w.heap.size, 1, none⟩ = some (.int .i64 0) := cell_of_row _ _ 1 _ _ _ hrb
  have r2 : w2.cell? ⟨w.heap.size, 2, none⟩ = some (.int .i64 0) := cell_of_row _ _ 2 _ _ _ hrb
  have r3 : w2.cell? ⟨w.heap.size, 3, none⟩ = some (.int .i64 0) := cell_of_row _ _ 3 _ _ _ hrb
  have hrb' := hrb
  clear hb4 hrb hg1 hg2 hc1
  have hx3 : x = 0 ∨ x = 1 ∨ x = 2 := by omega
  clear hx
  have hne : w2.heap.size ≠ w.heap.size := by omega
  rcases hx3 with rfl | rfl | rfl
  rotate_left
  · go_wp2
    refine bodyPost_ret (by rw [results_cell rfl]; go_simp; try rfl) rfl ?_
    exact ⟨⟨id, 2, y, y⟩, pwf hid (by omega) (by omega) (by omega), rfl, rfl, ((((hc2.fresh (by omega)).fresh (by omega)).fresh (by omega)).fresh (by omega)).alloc _, only_alloc (only_fresh (only_fresh (only_fresh (only_fresh HG.out (Nat.le_refl _) _) (Nat.le_refl _) _) (Nat.le_refl _) _) (Nat.le_refl _) _) _⟩
  all_goals
    clear hfr q0 q1 q2 q3
    go_wp2
    generalize hcs : (Obj.cells #[Value.int .i64 id, _, Value.int .i64 (y : Int), Value.int .i64 (y : Int)] 43 (0, 0)) = ob
    have hp3 := heap_alloc_new w2 ob
    have hr3 := (Below.heap_alloc w2 ob w.heap.size hlt).trans hrb'
    have hc3 := hc2.alloc ob
    have hg3 := only_alloc HG.out ob
    have hs3 : w2.heap.size < (w2.alloc ob).heap.size := by simp
    have z2 : (w2.alloc ob).cell? ⟨w2.heap.size, 2, none⟩ = some (.int .i64 (y : Int)) := (cell_of_row _ _ 2 _ _ _ (hp3.trans (congrArg some hcs.symm))).trans rfl
    generalize hw3 : w2.alloc ob = w3 at *
    clear hw3 hfr2 r0 r1 r2 r3
    go_region_held3 (fun W' => W'.cell? ⟨w2.heap.size, 2, none⟩ = some (.int .i64 (y : Int))) (first | exact z2 | exact y2 | exact (World.cell?_setCell_other _ _ _ _ (by simp)).trans y2 | go_keep)
      (first
        | (go_at_call 76; refine (spec_l1Below g 3 _ hc3.drew (by omega)).mono ?_; rintro e w4 ⟨z, hz, rfl, hc4, hg4⟩; have hp4 : w4.heap[w2.heap.size]? = some ob := (hg4.block w2.heap.size hs3 (by simp; omega)).trans hp3; have y2 : w4.cell? ⟨w2.heap.size, 2, none⟩ = some (.int .i64 (y : Int)) := (cell_of_row w4 _ 2 _ _ _ (hp4.trans (congrArg some hcs.symm))).trans rfl; have y3 : w4.cell? ⟨w2.heap.size, 3, none⟩ = some (.int .i64 (y : Int)) := (cell_of_row w4 _ 3 _ _ _ (hp4.trans (congrArg some hcs.symm))).trans rfl; have yf : w4.frozen? ⟨w2.heap.size, 3, none⟩ = false := frozen_of_row _ _ 3 _ _ (hp4.trans (congrArg some hcs.symm))))
    have hr4 := (hg4.block w.heap.size (by show w.heap.size < w3.heap.size; omega) (by simp; omega)).trans hr3
    have HG4 : Hid (w.grownBy w4 (some g)) := Lib.hid (only_trans (only_drew hg3) hg4)
    rw [← hcs] at hp4
    have hs4 := lt_of_block hp4
    have c0 := cell_of_row w4 _ 0 _ _ _ hp4
    have c1 := cell_of_row w4 _ 1 _ _ _ hp4
    have c2 := cell_of_row w4 _ 2 _ _ _ hp4
    have c3 := cell_of_row w4 _ 3 _ _ _ hp4
    have cf : ∀ j, w4.frozen? ⟨w2.heap.size, j, none⟩ = false := fun j => frozen_of_row _ _ j _ _ hp4
    have r0 := cell_of_row w4 _ 0 _ _ _ hr4
    have r1 := cell_of_row w4 _ 1 _ _ _ hr4
    have r2 := cell_of_row w4 _ 2 _ _ _ hr4
    have r3 := cell_of_row w4 _ 3 _ _ _ hr4
    have rf : ∀ j, w4.frozen? ⟨w.heap.size, j, none⟩ = false := fun j => frozen_of_row _ _ j _ _ hr4
    simp only [List.getElem?_toArray, List.getElem?_cons_succ, List.getElem?_cons_zero] at c0 c1 c2 c3 r0 r1 r2 r3
    clear hp4 hr4 hp3 hr3 hcs z2 y2 y3 yf hg4 hg3 hc3 hs3
    have ht := tm4 (IntKind.i64.wrap (IntKind.i64.wrap ((y : Int) + 1) + (z : Int)))
    generalize (IntKind.i64.wrap (IntKind.i64.wrap ((y : Int) + 1) + (z : Int))).tmod 4 = t at *
    go_wp2
    refine bodyPost_ret (by rw [results_cell rfl]; go_simp; try rfl) rfl ?_
    refine ⟨⟨id, _, y, t⟩, ?_, rfl, rfl, (((((hc4.fresh (by omega)).fresh (by omega)).fresh (by omega)).fresh (by omega)).fresh (by omega)), only_fresh (only_fresh (only_fresh (only_fresh (only_fresh HG4.out (by omega) _) (Nat.le_refl _) _) (Nat.le_refl _) _) (Nat.le_refl _) _) (Nat.le_refl _) _⟩
    exact pwf hid (by omega) (by omega) (by omega)
theorem spec_l4Raw (g : Nat) (w : World) (h : Curs w g) :
    Calls Tryd.prog 96 #[.pointer (some ⟨g, 0, none⟩)] w fun e w' => ∃ z : Int, (-9223372036854775808 ≤ z ∧ z ≤ 9223372036854775807) ∧ e = .returned (.int .i64 z) ∧ Curs w' g ∧ w.grownBy w' (some g) := by
  have hgl := h.lt
  go_enter Tryd.func96, Tryd.ntmps96
  go_wp2_with fail
  refine (spec_l1Int g _ [-1, 0, 4, 7, 20, 21, 9223372036854775807, -9223372036854775808] _ _ _ _ (h.alloc _) rfl (by decide) (heap_alloc_new w _) (by omega) (by decide)).mono ?_
  rintro e w1 ⟨z, hz, rfl, hc1, hg1⟩
  have hr : -9223372036854775808 ≤ z ∧ z ≤ 9223372036854775807 := by
    simp only [List.mem_cons, List.not_mem_nil, or_false] at hz
    omega
  clear hz
  go_wp2
  go_ret
  exact ⟨z, hr, rfl, hc1, only_new hg1⟩
set_option maxHeartbeats 2000000 in
theorem spec_l4Any (g : Nat) (w : World) (h : Curs w g) :
    Calls Tryd.prog 65 #[.pointer (some ⟨g, 0, none⟩)] w fun e w' => ∃ p : Pth, p.wf ∧ e = .returned p.val ∧ Curs w' g ∧ w.grownBy w' (some g) := by
  have hgl := h.lt
  go_enter Tryd.func65, Tryd.ntmps65
  go_wp2_with fail
  refine (spec_l1Below g 20 _ (h.alloc _) (by omega)).mono ?_
  rintro e w1 ⟨x, hx, rfl, hc1, hg1⟩
  go_wp2_with fail
  refine (spec_l4Draw g (1 + (x : Int)) _ hc1 (wf64 _ (by omega))).mono ?_
  rintro e w2 ⟨⟨p0, p1, p2, p3⟩, hwf, hpid, rfl, hc2, hg2⟩
  simp only [Pth.val]
  obtain ⟨wf0, wf1, wf2, wf3⟩ := hwf
  simp only at wf0 wf1 wf2 wf3 hpid
  clear hpid
  have hrb : w2.heap[w.heap.size]? = some (.cells #[.int .i64 0, .int .i64 0, .int .i64 0, .int .i64 0] 43 (0, 0)) :=
    (hg2.block w.heap.size (by have := hg1.size; simp at this; omega) (by simp; omega)).trans ((hg1.block w.heap.size (by simp) (by simp; omega)).trans (heap_alloc_new w _))
  have hlt : w.heap.size < w2.heap.size := lt_of_block hrb
  have HG : Hid (w.grownBy w2 (some g)) := Lib.hid (only_trans (only_new hg1) hg2)
  clear hg1 hg2 hc1
  go_wp2_with fail
  refine (spec_l1Below g 10 _ (hc2.alloc _) (by omega)).mono ?_
  rintro e w4 ⟨y, hy, rfl, hc4, hg4⟩
  have hp4 : w4.heap[w2.heap.size]? = some (.cells #[.int .i64 p0, .int .i64 p1, .int .i64 p2, .int .i64 p3] 43 (0, 0)) := (hg4.block w2.heap.size (by simp) (by simp; omega)).trans (heap_alloc_new w2 _)
  have hr4 := (hg4.block w.heap.size (by simp; omega) (by simp; omega)).trans ((Below.heap_alloc w2 _ w.heap.size hlt).trans hrb)
  have HG4 : Hid (w.grownBy w4 (some g)) := Lib.hid (only_trans HG.out (only_trans (only_alloc (World.grownBy.refl _ _) _) hg4))
  have hs4 := lt_of_block hp4
  clear hg4 hc2 hrb HG
  have hy5 : y = 0 ∨ y = 1 ∨ y = 2 ∨ y = 3 ∨ 4 ≤ y := by omega
  clear hy
  rcases hy5 with rfl | rfl | rfl | rfl | hy4
  · go_wp2_with fail
    refine (spec_l1Int g _ [0,20,21] _ _ _ _ (hc4.alloc _) rfl (by decide) (heap_alloc_new w4 _) (by omega) (by decide)).mono ?_
    rintro e w5 ⟨z, hz, rfl, hc5, hg5⟩
    have hzr : (Lit.int .i64 z).wf = true := wf64 z (by
      simp only [List.mem_cons, List.not_mem_nil, or_false] at hz
      omega)
    have hp5 := (hg5.block w2.heap.size (by simp; omega) (by simp; omega)).trans ((Below.heap_alloc w4 _ w2.heap.size hs4).trans hp4)
    have hr5 := (hg5.block w.heap.size (by simp; omega) (by simp; omega)).trans ((Below.heap_alloc w4 _ w.heap.size (by omega)).trans hr4)
    have HG5 : Hid (w.grownBy w5 (some g)) := Lib.hid (only_trans HG4.out (only_new hg5))
    clear hg5 hp4 hr4 hc4 HG4 hz
    have s5 := lt_of_block hp5
    have c0 := cell_of_row w5 _ 0 _ _ _ hp5
    have c1 := cell_of_row w5 _ 1 _ _ _ hp5
    have c2 := cell_of_row w5 _ 2 _ _ _ hp5
    have c3 := cell_of_row w5 _ 3 _ _ _ hp5
    have cf : ∀ j, w5.frozen? ⟨w2.heap.size, j, none⟩ = false := fun j => frozen_of_row _ _ j _ _ hp5
    have r0 := cell_of_row w5 _ 0 _ _ _ hr5
    have r1 := cell_of_row w5 _ 1 _ _ _ hr5
    have r2 := cell_of_row w5 _ 2 _ _ _ hr5
    have r3 := cell_of_row w5 _ 3 _ _ _ hr5
    have rf : ∀ j, w5.frozen? ⟨w.heap.size, j, none⟩ = false := fun j => frozen_of_row _ _ j _ _ hr5
    simp only [List.getElem?_toArray, List.getElem?_cons_succ, List.getElem?_cons_zero] at c0 c1 c2 c3 r0 r1 r2 r3
    clear hp5 hr5
    go_wp2
    refine bodyPost_ret (by rw [results_cell rfl]; go_simp; try rfl) rfl ?_
    exact ⟨⟨z,p1,p2,p3⟩, ⟨by assumption, by assumption, by assumption, by assumption⟩, rfl, (((((hc5.fresh (by omega)).fresh (by omega)).fresh (by omega)).fresh (by omega)).fresh (by omega)), only_fresh (only_fresh (only_fresh (only_fresh (only_fresh HG5.out (by omega) _) (Nat.le_refl _) _) (Nat.le_refl _) _) (Nat.le_refl _) _) (Nat.le_refl _) _⟩
  · go_wp2_with fail
    refine (spec_l1Int g _ [0,2,4] _ _ _ _ (hc4.alloc _) rfl (by decide) (heap_alloc_new w4 _) (by omega) (by decide)).mono ?_
    rintro e w5 ⟨z, hz, rfl, hc5, hg5⟩
    have hzr : (Lit.int .i64 z).wf = true := wf64 z (by
      simp only [List.mem_cons, List.not_mem_nil, or_false] at hz
      omega)
    have hp5 := (hg5.block w2.heap.size (by simp; omega) (by simp; omega)).trans ((Below.heap_alloc w4 _ w2.heap.size hs4).trans hp4)
    have hr5 := (hg5.block w.heap.size (by simp; omega) (by simp; omega)).trans ((Below.heap_alloc w4 _ w.heap.size (by omega)).trans hr4)
    have HG5 : Hid (w.grownBy w5 (some g)) := Lib.hid (only_trans HG4.out (only_new hg5))
    clear hg5 hp4 hr4 hc4 HG4 hz
    have s5 := lt_of_block hp5
    have c0 := cell_of_row w5 _ 0 _ _ _ hp5
    have c1 := cell_of_row w5 _ 1 _ _ _ hp5
    have c2 := cell_of_row w5 _ 2 _ _ _ hp5
    have c3 := cell_of_row w5 _ 3 _ _ _ hp5
    have cf : ∀ j, w5.frozen? ⟨w2.heap.size, j, none⟩ = false := fun j => frozen_of_row _ _ j _ _ hp5
    have r0 := cell_of_row w5 _ 0 _ _ _ hr5
    have r1 := cell_of_row w5 _ 1 _ _ _ hr5
    have r2 := cell_of_row w5 _ 2 _ _ _ hr5
    have r3 := cell_of_row w5 _ 3 _ _ _ hr5
    have rf : ∀ j, w5.frozen? ⟨w.heap.size, j, none⟩ = false := fun j => frozen_of_row _ _ j _ _ hr5
    simp only [List.getElem?_toArray, List.getElem?_cons_succ, List.getElem?_cons_zero] at c0 c1 c2 c3 r0 r1 r2 r3
    clear hp5 hr5
    go_wp2
    refine bodyPost_ret (by rw [results_cell rfl]; go_simp; try rfl) rfl ?_
    exact ⟨⟨p0,z,p2,p3⟩, ⟨by assumption, by assumption, by assumption, by assumption⟩, rfl, (((((hc5.fresh (by omega)).fresh (by omega)).fresh (by omega)).fresh (by omega)).fresh (by omega)), only_fresh (only_fresh (only_fresh (only_fresh (only_fresh HG5.out (by omega) _) (Nat.le_refl _) _) (Nat.le_refl _) _) (Nat.le_refl _) _) (Nat.le_refl _) _⟩
  · go_wp2_with fail
    refine (spec_l4Raw g _ hc4).mono ?_
    rintro e w5 ⟨z, hz, rfl, hc5, hg5⟩
    have hzr : (Lit.int .i64 z).wf = true := wf64 z hz
    have hp5 := (hg5.block w2.heap.size (by omega) (by simp; omega)).trans hp4
    have hr5 := (hg5.block w.heap.size (by omega) (by simp; omega)).trans hr4
    have HG5 : Hid (w.grownBy w5 (some g)) := Lib.hid (only_trans HG4.out hg5)
    clear hg5 hp4 hr4 hc4 HG4 hz
    have s5 := lt_of_block hp5
    have c0 := cell_of_row w5 _ 0 _ _ _ hp5
    have c1 := cell_of_row w5 _ 1 _ _ _ hp5
    have c2 := cell_of_row w5 _ 2 _ _ _ hp5
    have c3 := cell_of_row w5 _ 3 _ _ _ hp5
    have cf : ∀ j, w5.frozen? ⟨w2.heap.size, j, none⟩ = false := fun j => frozen_of_row _ _ j _ _ hp5
    have r0 := cell_of_row w5 _ 0 _ _ _ hr5
    have r1 := cell_of_row w5 _ 1 _ _ _ hr5
    have r2 := cell_of_row w5 _ 2 _ _ _ hr5
    have r3 := cell_of_row w5 _ 3 _ _ _ hr5
    have rf : ∀ j, w5.frozen? ⟨w.heap.size, j, none⟩ = false := fun j => frozen_of_row _ _ j _ _ hr5
    simp only [List.getElem?_toArray, List.getElem?_cons_succ, List.getElem?_cons_zero] at c0 c1 c2 c3 r0 r1 r2 r3
    clear hp5 hr5
    go_wp2
    refine bodyPost_ret (by rw [results_cell rfl]; go_simp; try rfl) rfl ?_
    exact ⟨⟨p0,p1,z,p3⟩, ⟨by assumption, by assumption, by assumption, by assumption⟩, rfl, (((((hc5.fresh (by omega)).fresh (by omega)).fresh (by omega)).fresh (by omega)).fresh (by omega)), only_fresh (only_fresh (only_fresh (only_fresh (only_fresh HG5.out (by omega) _) (Nat.le_refl _) _) (Nat.le_refl _) _) (Nat.le_refl _) _) (Nat.le_refl _) _⟩
  · go_wp2_with fail
    refine (spec_l4Raw g _ hc4).mono ?_
    rintro e w5 ⟨z, hz, rfl, hc5, hg5⟩
    have hzr : (Lit.int .i64 z).wf = true := wf64 z hz
    have hp5 := (hg5.block w2.heap.size (by omega) (by simp; omega)).trans hp4
    have hr5 := (hg5.block w.heap.size (by omega) (by simp; omega)).trans hr4
    have HG5 : Hid (w.grownBy w5 (some g)) := Lib.hid (only_trans HG4.out hg5)
    clear hg5 hp4 hr4 hc4 HG4 hz
    have s5 := lt_of_block hp5
    have c0 := cell_of_row w5 _ 0 _ _ _ hp5
    have c1 := cell_of_row w5 _ 1 _ _ _ hp5
    have c2 := cell_of_row w5 _ 2 _ _ _ hp5
    have c3 := cell_of_row w5 _ 3 _ _ _ hp5
    have cf : ∀ j, w5.frozen? ⟨w2.heap.size, j, none⟩ = false := fun j => frozen_of_row _ _ j _ _ hp5
    have r0 := cell_of_row w5 _ 0 _ _ _ hr5
    have r1 := cell_of_row w5 _ 1 _ _ _ hr5
    have r2 := cell_of_row w5 _ 2 _ _ _ hr5
    have r3 := cell_of_row w5 _ 3 _ _ _ hr5
    have rf : ∀ j, w5.frozen? ⟨w.heap.size, j, none⟩ = false := fun j => frozen_of_row _ _ j _ _ hr5
    simp only [List.getElem?_toArray, List.getElem?_cons_succ, List.getElem?_cons_zero] at c0 c1 c2 c3 r0 r1 r2 r3
    clear hp5 hr5
    go_wp2
    refine bodyPost_ret (by rw [results_cell rfl]; go_simp; try rfl) rfl ?_
    exact ⟨⟨p0,p1,p2,z⟩, ⟨by assumption, by assumption, by assumption, by assumption⟩, rfl, (((((hc5.fresh (by omega)).fresh (by omega)).fresh (by omega)).fresh (by omega)).fresh (by omega)), only_fresh (only_fresh (only_fresh (only_fresh (only_fresh HG5.out (by omega) _) (Nat.le_refl _) _) (Nat.le_refl _) _) (Nat.le_refl _) _) (Nat.le_refl _) _⟩
  · have n0 : ((y : Int) == 0) = false := by simp; omega
    have n1 : ((y : Int) == 1) = false := by simp; omega
    have n2 : ((y : Int) == 2) = false := by simp; omega
    have n3 : ((y : Int) == 3) = false := by simp; omega
    obtain ⟨w5, hw5⟩ : ∃ w5, w5 = w4 := ⟨_, rfl⟩
    rw [← hw5] at hp4 hr4 hc4 HG4 ⊢
    clear hw5 hs4
    have hp5 := hp4
    have hr5 := hr4
    clear hp4 hr4
    have s5 := lt_of_block hp5
    have c0 := cell_of_row w5 _ 0 _ _ _ hp5
    have c1 := cell_of_row w5 _ 1 _ _ _ hp5
    have c2 := cell_of_row w5 _ 2 _ _ _ hp5
    have c3 := cell_of_row w5 _ 3 _ _ _ hp5
    have cf : ∀ j, w5.frozen? ⟨w2.heap.size, j, none⟩ = false := fun j => frozen_of_row _ _ j _ _ hp5
    have r0 := cell_of_row w5 _ 0 _ _ _ hr5
    have r1 := cell_of_row w5 _ 1 _ _ _ hr5
    have r2 := cell_of_row w5 _ 2 _ _ _ hr5
    have r3 := cell_of_row w5 _ 3 _ _ _ hr5
    have rf : ∀ j, w5.frozen? ⟨w.heap.size, j, none⟩ = false := fun j => frozen_of_row _ _ j _ _ hr5
    simp only [List.getElem?_toArray, List.getElem?_cons_succ, List.getElem?_cons_zero] at c0 c1 c2 c3 r0 r1 r2 r3
    clear hp5 hr5
    go_wp2
    refine bodyPost_ret (by rw [results_cell rfl]; go_simp; try rfl) rfl ?_
    exact ⟨⟨p0, p1, p2, p3⟩, ⟨by assumption, by assumption, by assumption, by assumption⟩, rfl, ((((hc4.fresh (by omega)).fresh (by omega)).fresh (by omega)).fresh (by omega)), only_fresh (only_fresh (only_fresh (only_fresh HG4.out (Nat.le_refl _) _) (Nat.le_refl _) _) (Nat.le_refl _) _) (Nat.le_refl _) _⟩
theorem spec_DrawIsPath (A : Option Addr) (n c B : Nat) (zs : List Int) (w : World) (hb : Bytes w B A n zs) (hB : B ≤ w.heap.size) (hn : n ≤ 1048576) :
    Calls Tryd.prog 81 #[.slice A n c] w fun e w' => ∃ p : Pth, p.wf ∧ e = .returned p.val ∧ Below w.heap.size w w' := by
  have hba : Below w.heap.size w (w.alloc (.cells #[.int .i64 0, .int .i64 0, .int .i64 0, .int .i64 0] 43)) := (Below.refl _ _).alloc (Nat.le_refl _) _
  have hbz := hb.below (hba.mono hB)
  go_enter Tryd.func81, Tryd.ntmps81
  go_wp2_with fail
  refine (spec_l1New A n c B zs _ hbz (by simp; omega) hn).mono ?_
  rintro e w1 ⟨rfl, hc1, hb1⟩
  simp only [World.size_alloc] at hc1 hb1
  have hlt := hc1.lt
  go_wp2_with fail
  refine (spec_l4Any (w.heap.size + 1) _ hc1).mono ?_
  rintro e w2 ⟨⟨p0, p1, p2, p3⟩, hwf, rfl, hc2, hg2⟩
  simp only [Pth.val]
  have hr2 : w2.heap[w.heap.size]? = some (.cells #[.int .i64 0, .int .i64 0, .int .i64 0, .int .i64 0] 43 (0, 0)) := (hg2.block w.heap.size (by omega) (by simp)).trans ((hb1.block w.heap.size (by omega)).trans (heap_alloc_new w _))
  have HB : Hid (Below w.heap.size w w2) := Lib.hid ((hba.trans (hb1.mono (by omega))).trans (below_of_only hg2 (by omega) (by omega)))
  have r0 := cell_of_row w2 _ 0 _ _ _ hr2
  have r1 := cell_of_row w2 _ 1 _ _ _ hr2
  have r2 := cell_of_row w2 _ 2 _ _ _ hr2
  have r3 := cell_of_row w2 _ 3 _ _ _ hr2
  have rf : ∀ j, w2.frozen? ⟨w.heap.size, j, none⟩ = false := fun j => frozen_of_row _ _ j _ _ hr2
  simp only [List.getElem?_toArray, List.getElem?_cons_succ, List.getElem?_cons_zero] at r0 r1 r2 r3
  clear hr2 hg2 hb1 hba
  go_wp2
  refine bodyPost_ret (by rw [results_cell rfl]; go_simp; try rfl) rfl ?_
  exact ⟨⟨p0, p1, p2, p3⟩, hwf, rfl, (((HB.out.setCell (Nat.le_refl _) _).setCell (Nat.le_refl _) _).setCell (Nat.le_refl _) _).setCell (Nat.le_refl _) _⟩
end Go.Proofs.YtgdficjihkglpadDoor
