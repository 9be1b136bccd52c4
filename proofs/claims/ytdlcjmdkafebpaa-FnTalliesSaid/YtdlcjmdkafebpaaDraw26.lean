/- Contracts of the draws of chapter 26. -/
import Derived.Test.YtdlcjmdkafebpaaDraw4
import Derived.Test.YtdlcjmdkafebpaaTly
import Derived.Test.YtdlcjmdkafebpaaFlat
namespace Go.Proofs.Ytdlcjmdkafebpaa
open Go.RowKit
set_option linter.unusedVariables false

theorem twf {a b c : Int} (ha : -9223372036854775808 ≤ a ∧ a ≤ 9223372036854775807) (hb : -9223372036854775808 ≤ b ∧ b ≤ 9223372036854775807) (hc : -9223372036854775808 ≤ c ∧ c ≤ 9223372036854775807) : Tly.wf ⟨a, b, c⟩ := ⟨wf64 a ha, wf64 b hb, wf64 c hc⟩
set_option maxHeartbeats 1000000 in
theorem spec_l26Draw (g : Nat) (w : World) (h : Curs w g) :
    Calls Try.prog 142 #[.pointer (some ⟨g, 0, none⟩)] w fun e w' => ∃ p : Tly, p.wf ∧ e = .returned p.val ∧ Curs w' g ∧ w.grownBy w' (some g) := by
  have hgl := h.lt
  go_enter Try.func142, Try.ntmps142
  go_wp2_with fail
  refine (spec_l1Below g 30 _ (h.alloc _) (by omega)).mono ?_
  rintro e w1 ⟨x, hx, rfl, hc1, hg1⟩
  go_wp2_with fail
  refine (spec_l1Below g 12 _ hc1 (by omega)).mono ?_
  rintro e w2 ⟨y, hy, rfl, hc2, hg2⟩
  have hrb : w2.heap[w.heap.size]? = some (.cells #[.int .i64 0, .int .i64 0, .int .i64 0] 92 (0, 0)) :=
    (hg2.block w.heap.size (by have := hg1.size; simp at this; omega) (by simp; omega)).trans ((hg1.block w.heap.size (by simp) (by simp; omega)).trans (heap_alloc_new w _))
  have hlt : w.heap.size < w2.heap.size := lt_of_block hrb
  have HG : Hid (w.grownBy w2 (some g)) := Lib.hid (only_trans (only_new hg1) hg2)
  have hrb' := hrb
  clear hrb hg1 hg2 hc1
  have hne : w2.heap.size ≠ w.heap.size := by omega
  have hwy : IntKind.i64.wrap ((y : Int) + 1) = (y : Int) + 1 := by rw [IntKind.wrap_i64]; omega
  go_wp2
  generalize hcs : (Obj.cells #[Value.int .i64 0, Value.int .i64 (x : Int), Value.int .i64 (y : Int)] 92 (0, 0)) = ob
  have hp3 := heap_alloc_new w2 ob
  have hr3 := (Below.heap_alloc w2 ob w.heap.size hlt).trans hrb'
  have hc3 := hc2.alloc ob
  have hg3 := only_alloc HG.out ob
  have hs3 : w2.heap.size < (w2.alloc ob).heap.size := by simp
  have z1 : (w2.alloc ob).cell? ⟨w2.heap.size, 1, none⟩ = some (.int .i64 (x : Int)) := (cell_of_row _ _ 1 _ _ _ (hp3.trans (congrArg some hcs.symm))).trans rfl
  have z2 : (w2.alloc ob).cell? ⟨w2.heap.size, 2, none⟩ = some (.int .i64 (y : Int)) := (cell_of_row _ _ 2 _ _ _ (hp3.trans (congrArg some hcs.symm))).trans rfl
  generalize hw3 : w2.alloc ob = w3 at *
  clear hw3
  go_region_held3 (fun W' => W'.cell? ⟨w2.heap.size, 1, none⟩ = some (.int .i64 (x : Int)) ∧ W'.cell? ⟨w2.heap.size, 2, none⟩ = some (.int .i64 (y : Int))) (first | exact ⟨z1, z2⟩ | exact ⟨y1, y2⟩ | exact ⟨(World.cell?_setCell_other _ _ _ _ (by simp)).trans y1, (World.cell?_setCell_other _ _ _ _ (by simp)).trans y2⟩ | go_keep)
    (first
      | (go_at_call 107; refine (spec_l1Below g ((y : Int) + 1) _ hc3.drew (by omega)).mono ?_; rintro e w4 ⟨z, hz, rfl, hc4, hg4⟩; have hp4 : w4.heap[w2.heap.size]? = some ob := (hg4.block w2.heap.size hs3 (by simp; omega)).trans hp3; have y0 : w4.cell? ⟨w2.heap.size, 0, none⟩ = some (.int .i64 0) := (cell_of_row w4 _ 0 _ _ _ (hp4.trans (congrArg some hcs.symm))).trans rfl; have y1 : w4.cell? ⟨w2.heap.size, 1, none⟩ = some (.int .i64 (x : Int)) := (cell_of_row w4 _ 1 _ _ _ (hp4.trans (congrArg some hcs.symm))).trans rfl; have y2 : w4.cell? ⟨w2.heap.size, 2, none⟩ = some (.int .i64 (y : Int)) := (cell_of_row w4 _ 2 _ _ _ (hp4.trans (congrArg some hcs.symm))).trans rfl; have yf : w4.frozen? ⟨w2.heap.size, 0, none⟩ = false := frozen_of_row _ _ 0 _ _ (hp4.trans (congrArg some hcs.symm)); have hwz : IntKind.i64.wrap ((x : Int) + (z : Int)) = (x : Int) + (z : Int) := by { rw [IntKind.wrap_i64]; omega }))
  have hr4 := (hg4.block w.heap.size (by show w.heap.size < w3.heap.size; omega) (by simp; omega)).trans hr3
  have HG4 : Hid (w.grownBy w4 (some g)) := Lib.hid (only_trans (only_drew hg3) hg4)
  rw [← hcs] at hp4
  have hs4 := lt_of_block hp4
  have c0 := cell_of_row w4 _ 0 _ _ _ hp4
  have c1 := cell_of_row w4 _ 1 _ _ _ hp4
  have c2 := cell_of_row w4 _ 2 _ _ _ hp4
  have cf : ∀ j, w4.frozen? ⟨w2.heap.size, j, none⟩ = false := fun j => frozen_of_row _ _ j _ _ hp4
  have r0 := cell_of_row w4 _ 0 _ _ _ hr4
  have r1 := cell_of_row w4 _ 1 _ _ _ hr4
  have r2 := cell_of_row w4 _ 2 _ _ _ hr4
  have rf : ∀ j, w4.frozen? ⟨w.heap.size, j, none⟩ = false := fun j => frozen_of_row _ _ j _ _ hr4
  simp only [List.getElem?_toArray, List.getElem?_cons_succ, List.getElem?_cons_zero] at c0 c1 c2 r0 r1 r2
  clear hp4 hr4 hp3 hr3 hcs z1 z2 y0 y1 y2 yf hg4 hg3 hc3 hs3
  go_wp2
  refine bodyPost_ret (by rw [results_cell rfl]; go_simp; try rfl) rfl ?_
  refine ⟨⟨_, x, y⟩, ?_, rfl, ((((hc4.fresh (by omega)).fresh (by omega)).fresh (by omega)).fresh (by omega)), only_fresh (only_fresh (only_fresh (only_fresh HG4.out (by omega) _) (Nat.le_refl _) _) (Nat.le_refl _) _) (Nat.le_refl _) _⟩
  exact twf (by omega) (by omega) (by omega)
set_option maxHeartbeats 2000000 in
theorem spec_l26Any (g : Nat) (w : World) (h : Curs w g) :
    Calls Try.prog 116 #[.pointer (some ⟨g, 0, none⟩)] w fun e w' => ∃ p : Tly, p.wf ∧ e = .returned p.val ∧ Curs w' g ∧ w.grownBy w' (some g) := by
  have hgl := h.lt
  go_enter Try.func116, Try.ntmps116
  go_wp2_with fail
  refine (spec_l26Draw g _ (h.alloc _)).mono ?_
  rintro e w2 ⟨⟨p0, p1, p2⟩, hwf, rfl, hc2, hg2⟩
  simp only [Tly.val]
  obtain ⟨wf0, wf1, wf2⟩ := hwf
  simp only at wf0 wf1 wf2
  have hrb : w2.heap[w.heap.size]? = some (.cells #[.int .i64 0, .int .i64 0, .int .i64 0] 92 (0, 0)) :=
    (hg2.block w.heap.size (by simp) (by simp; omega)).trans (heap_alloc_new w _)
  have hlt : w.heap.size < w2.heap.size := lt_of_block hrb
  have HG : Hid (w.grownBy w2 (some g)) := Lib.hid (only_new hg2)
  clear hg2
  go_wp2_with fail
  refine (spec_l1Below g 10 _ (hc2.alloc _) (by omega)).mono ?_
  rintro e w4 ⟨y, hy, rfl, hc4, hg4⟩
  have hp4 : w4.heap[w2.heap.size]? = some (.cells #[.int .i64 p0, .int .i64 p1, .int .i64 p2] 92 (0, 0)) := (hg4.block w2.heap.size (by simp) (by simp; omega)).trans (heap_alloc_new w2 _)
  have hr4 := (hg4.block w.heap.size (by simp; omega) (by simp; omega)).trans ((Below.heap_alloc w2 _ w.heap.size hlt).trans hrb)
  have HG4 : Hid (w.grownBy w4 (some g)) := Lib.hid (only_trans HG.out (only_trans (only_alloc (World.grownBy.refl _ _) _) hg4))
  have hs4 := lt_of_block hp4
  clear hg4 hc2 hrb HG
  have hy5 : y = 0 ∨ y = 1 ∨ y = 2 ∨ y = 3 ∨ 4 ≤ y := by omega
  clear hy
  rcases hy5 with rfl | rfl | rfl | rfl | hy4
  · go_wp2_with fail
    refine (spec_l4Raw g _ hc4).mono ?_
    rintro e w5 ⟨z, hz, rfl, hc5, hg5⟩
    have hzr : (Lit.int .i64 z).wf = true := wf64 z hz
    have hp5 := (hg5.block w2.heap.size (by omega) (by simp; omega)).trans hp4
    have hr5 := (hg5.block w.heap.size (by omega) (by simp; omega)).trans hr4
    have HG5 : Hid (w.grownBy w5 (some g)) := Lib.hid (only_trans HG4.out hg5)
    clear hg5 hp4 hr4 hc4 HG4 hz
    have s5 := lt_of_block hp5
    have c0 := cell_of_row w5 _ 0 _ _ _ hp5
    have c1 := cell_of_row w5 _ 1 _ _ _ hp5
    have c2 := cell_of_row w5 _ 2 _ _ _ hp5
    have cf : ∀ j, w5.frozen? ⟨w2.heap.size, j, none⟩ = false := fun j => frozen_of_row _ _ j _ _ hp5
    have r0 := cell_of_row w5 _ 0 _ _ _ hr5
    have r1 := cell_of_row w5 _ 1 _ _ _ hr5
    have r2 := cell_of_row w5 _ 2 _ _ _ hr5
    have rf : ∀ j, w5.frozen? ⟨w.heap.size, j, none⟩ = false := fun j => frozen_of_row _ _ j _ _ hr5
    simp only [List.getElem?_toArray, List.getElem?_cons_succ, List.getElem?_cons_zero] at c0 c1 c2 r0 r1 r2
    clear hp5 hr5
    go_wp2
    refine bodyPost_ret (by rw [results_cell rfl]; go_simp; try rfl) rfl ?_
    exact ⟨⟨z,p1,p2⟩, ⟨by assumption, by assumption, by assumption⟩, rfl, ((((hc5.fresh (by omega)).fresh (by omega)).fresh (by omega)).fresh (by omega)), only_fresh (only_fresh (only_fresh (only_fresh HG5.out (by omega) _) (Nat.le_refl _) _) (Nat.le_refl _) _) (Nat.le_refl _) _⟩
  · go_wp2_with fail
    refine (spec_l4Raw g _ hc4).mono ?_
    rintro e w5 ⟨z, hz, rfl, hc5, hg5⟩
    have hzr : (Lit.int .i64 z).wf = true := wf64 z hz
    have hp5 := (hg5.block w2.heap.size (by omega) (by simp; omega)).trans hp4
    have hr5 := (hg5.block w.heap.size (by omega) (by simp; omega)).trans hr4
    have HG5 : Hid (w.grownBy w5 (some g)) := Lib.hid (only_trans HG4.out hg5)
    clear hg5 hp4 hr4 hc4 HG4 hz
    have s5 := lt_of_block hp5
    have c0 := cell_of_row w5 _ 0 _ _ _ hp5
    have c1 := cell_of_row w5 _ 1 _ _ _ hp5
    have c2 := cell_of_row w5 _ 2 _ _ _ hp5
    have cf : ∀ j, w5.frozen? ⟨w2.heap.size, j, none⟩ = false := fun j => frozen_of_row _ _ j _ _ hp5
    have r0 := cell_of_row w5 _ 0 _ _ _ hr5
    have r1 := cell_of_row w5 _ 1 _ _ _ hr5
    have r2 := cell_of_row w5 _ 2 _ _ _ hr5
    have rf : ∀ j, w5.frozen? ⟨w.heap.size, j, none⟩ = false := fun j => frozen_of_row _ _ j _ _ hr5
    simp only [List.getElem?_toArray, List.getElem?_cons_succ, List.getElem?_cons_zero] at c0 c1 c2 r0 r1 r2
    clear hp5 hr5
    go_wp2
    refine bodyPost_ret (by rw [results_cell rfl]; go_simp; try rfl) rfl ?_
    exact ⟨⟨p0,z,p2⟩, ⟨by assumption, by assumption, by assumption⟩, rfl, ((((hc5.fresh (by omega)).fresh (by omega)).fresh (by omega)).fresh (by omega)), only_fresh (only_fresh (only_fresh (only_fresh HG5.out (by omega) _) (Nat.le_refl _) _) (Nat.le_refl _) _) (Nat.le_refl _) _⟩
  · go_wp2_with fail
    refine (spec_l1Int g _ [-1, 100, 101] _ _ _ _ (hc4.alloc _) rfl (by decide) (heap_alloc_new w4 _) (by omega) (by decide)).mono ?_
    rintro e w5 ⟨z, hz, rfl, hc5, hg5⟩
    have hzr : (Lit.int .i64 z).wf = true := wf64 z (by
      simp only [List.mem_cons, List.not_mem_nil, or_false] at hz
      omega)
    have hp5 := (hg5.block w2.heap.size (by simp; omega) (by simp; omega)).trans ((Below.heap_alloc w4 _ w2.heap.size hs4).trans hp4)
    have hr5 := (hg5.block w.heap.size (by simp; omega) (by simp; omega)).trans ((Below.heap_alloc w4 _ w.heap.size (by omega)).trans hr4)
    have HG5 : Hid (w.grownBy w5 (some g)) := Lib.hid (only_trans HG4.out (only_new hg5))
    clear hg5 hp4 hr4 hc4 HG4 hz
    have s5 := lt_of_block hp5
    have c0 := cell_of_row w5 _ 0 _ _ _ hp5
    have c1 := cell_of_row w5 _ 1 _ _ _ hp5
    have c2 := cell_of_row w5 _ 2 _ _ _ hp5
    have cf : ∀ j, w5.frozen? ⟨w2.heap.size, j, none⟩ = false := fun j => frozen_of_row _ _ j _ _ hp5
    have r0 := cell_of_row w5 _ 0 _ _ _ hr5
    have r1 := cell_of_row w5 _ 1 _ _ _ hr5
    have r2 := cell_of_row w5 _ 2 _ _ _ hr5
    have rf : ∀ j, w5.frozen? ⟨w.heap.size, j, none⟩ = false := fun j => frozen_of_row _ _ j _ _ hr5
    simp only [List.getElem?_toArray, List.getElem?_cons_succ, List.getElem?_cons_zero] at c0 c1 c2 r0 r1 r2
    clear hp5 hr5
    go_wp2
    refine bodyPost_ret (by rw [results_cell rfl]; go_simp; try rfl) rfl ?_
    exact ⟨⟨p0, p1, z⟩, ⟨by assumption, by assumption, by assumption⟩, rfl, ((((hc5.fresh (by omega)).fresh (by omega)).fresh (by omega)).fresh (by omega)), only_fresh (only_fresh (only_fresh (only_fresh HG5.out (by omega) _) (Nat.le_refl _) _) (Nat.le_refl _) _) (Nat.le_refl _) _⟩
  all_goals
    have c0 := cell_of_row w4 _ 0 _ _ _ hp4
    have c1 := cell_of_row w4 _ 1 _ _ _ hp4
    have c2 := cell_of_row w4 _ 2 _ _ _ hp4
    have cf : ∀ j, w4.frozen? ⟨w2.heap.size, j, none⟩ = false := fun j => frozen_of_row _ _ j _ _ hp4
    have r0 := cell_of_row w4 _ 0 _ _ _ hr4
    have r1 := cell_of_row w4 _ 1 _ _ _ hr4
    have r2 := cell_of_row w4 _ 2 _ _ _ hr4
    have rf : ∀ j, w4.frozen? ⟨w.heap.size, j, none⟩ = false := fun j => frozen_of_row _ _ j _ _ hr4
    simp only [List.getElem?_toArray, List.getElem?_cons_succ, List.getElem?_cons_zero] at c0 c1 c2 r0 r1 r2
    clear hp4 hr4
  · go_wp2
    refine bodyPost_ret (by rw [results_cell rfl]; go_simp; try rfl) rfl ?_
    exact ⟨⟨1000000, 999998, p2⟩, ⟨wf64 1000000 (by decide), wf64 999998 (by decide), by assumption⟩, rfl, (((((hc4.fresh (by omega)).fresh (by omega)).fresh (by omega)).fresh (by omega)).fresh (by omega)), only_fresh (only_fresh (only_fresh (only_fresh (only_fresh HG4.out (by omega) _) (by omega) _) (Nat.le_refl _) _) (Nat.le_refl _) _) (Nat.le_refl _) _⟩
  · have n0 : ((y : Int) == 0) = false := by simp; omega
    have n1 : ((y : Int) == 1) = false := by simp; omega
    have n2 : ((y : Int) == 2) = false := by simp; omega
    have n3 : ((y : Int) == 3) = false := by simp; omega
    go_wp2
    refine bodyPost_ret (by rw [results_cell rfl]; go_simp; try rfl) rfl ?_
    exact ⟨⟨p0, p1, p2⟩, ⟨by assumption, by assumption, by assumption⟩, rfl, (((hc4.fresh (by omega)).fresh (by omega)).fresh (by omega)), only_fresh (only_fresh (only_fresh HG4.out (Nat.le_refl _) _) (Nat.le_refl _) _) (Nat.le_refl _) _⟩
set_option maxHeartbeats 2000000 in
theorem spec_DrawCountIn (A : Option Addr) (n c B : Nat) (zs : List Int) (w : World) (hb : Bytes w B A n zs) (hB : B ≤ w.heap.size) (hn : n ≤ 1048576) :
    Calls Try.prog 66 #[.slice A n c] w fun e w' => ∃ (p : Tly) (m : Int), p.wf ∧ (-1 ≤ m ∧ m ≤ 1001) ∧ e = .returned (.tuple #[p.val, .int .i64 m]) ∧ Below w.heap.size w w' := by
  have hba : Below w.heap.size w (w.alloc (.cells #[.int .i64 0, .int .i64 0, .int .i64 0] 92)) := (Below.refl _ _).alloc (Nat.le_refl _) _
  have hbz := hb.below (hba.mono hB)
  go_enter Try.func66, Try.ntmps66
  go_wp2_with fail
  refine (spec_l1New A n c B zs _ hbz (by simp; omega) hn).mono ?_
  rintro e w1 ⟨rfl, hc1, hb1⟩
  simp only [World.size_alloc] at hc1 hb1
  have hlt := hc1.lt
  have hra1 := (hb1.block w.heap.size (by omega)).trans (heap_alloc_new w _)
  have hbl1 := hba.trans (hb1.mono (by omega))
  clear hb1 hba hbz hb
  go_wp2_with fail
  refine (spec_l26Any (w.heap.size + 1) _ hc1).mono ?_
  rintro e w2 ⟨⟨p0, p1, p2⟩, hpw, rfl, hc2, hg2⟩
  simp only [Tly.val]
  have hra2 := (hg2.block w.heap.size (by omega) (by simp)).trans hra1
  have hbl2 := hbl1.trans (below_of_only hg2 (by omega) hbl1.size)
  have hcl2 := hc2.lt
  clear hra1 hbl1 hg2 hc1
  go_wp2
  have hX := heap_alloc_new w2 (.cells #[.int .i64 p0, .int .i64 p1, .int .i64 p2] 92)
  have hra3 := (Below.heap_alloc w2 (.cells #[.int .i64 p0, .int .i64 p1, .int .i64 p2] 92) w.heap.size (by omega)).trans hra2
  have hc3 := hc2.alloc (.cells #[.int .i64 p0, .int .i64 p1, .int .i64 p2] 92)
  have hbl3 := hbl2.alloc hbl2.size (.cells #[.int .i64 p0, .int .i64 p1, .int .i64 p2] 92)
  have hs3 : w2.heap.size < (w2.alloc (.cells #[.int .i64 p0, .int .i64 p1, .int .i64 p2] 92)).heap.size := by simp
  generalize hw3 : w2.alloc (.cells #[.int .i64 p0, .int .i64 p1, .int .i64 p2] 92) = w3 at *
  clear hw3 hra2 hc2 hbl2
  have z0 := cell_of_row w3 _ 0 _ _ _ hX
  have z1 := cell_of_row w3 _ 1 _ _ _ hX
  have z2 := cell_of_row w3 _ 2 _ _ _ hX
  simp only [List.getElem?_toArray, List.getElem?_cons_succ, List.getElem?_cons_zero] at z0 z1 z2
  have hmx : Try.prog.follows .mixedOrders = true := by kernel_rfl
  have hne3 : w.heap.size + 1 ≠ w3.heap.size := by omega
  have hcd := hc3.drew
  have hrad : w3.drew.heap[w.heap.size]? = _ := hra3
  have hXd : w3.drew.heap[w2.heap.size]? = _ := hX
  have hbld : Below w.heap.size w w3.drew := belowN hbl3 1
  have hsd : w2.heap.size < w3.drew.heap.size := hs3
  refine wp_region_held_drew (S := fun W' => W'.cell? ⟨w2.heap.size, 0, none⟩ = some (.int .i64 p0) ∧ W'.cell? ⟨w2.heap.size, 1, none⟩ = some (.int .i64 p1) ∧ W'.cell? ⟨w2.heap.size, 2, none⟩ = some (.int .i64 p2)) hmx ⟨z0, z1, z2⟩ (fun hH => ?_)
  refine wpAnyH_take (i := 0) (v := .agg #[.int .i64 p0, .int .i64 p1, .int .i64 p2]) rfl (by kernel_rfl) (by kernel_rfl) (by kernel_rfl) (fun _ _ _ h => h) (Or.inl ⟨by rfl, by intro W' hW; obtain ⟨k0, k1, k2⟩ := hW; go_simp⟩) hH ?_
  try simp only [Act.put, List.setIfInBounds_toArray, List.set_cons_zero, List.set_cons_succ]
  refine wpAnyH_take (i := 1) (v := .pointer (some ⟨w.heap.size + 1, 0, none⟩)) rfl (by kernel_rfl) (by kernel_rfl) (by kernel_rfl) (fun _ _ _ h => h) (Or.inl ⟨by rfl, by intro W' hW; go_simp⟩) hH ?_
  try simp only [Act.put, List.setIfInBounds_toArray, List.set_cons_zero, List.set_cons_succ]
  generalize w3.drew = w4 at *
  refine wpAnyH_ready (rs := [2]) (by decide +kernel) (by simp) (AllReadyH.cons rfl (fun K hK => ?_) AllReadyH.nil)
  go_simp
  generalize hob : Obj.cells #[Value.int .i64 0, Value.int .i64 1, Value.int .i64 2, Value.int .i64 5, Value.int .i64 1000, Value.int .i64 1001, Value.int .i64 (-1)] 3 = ob
  have hL := heap_alloc_new w4 ob
  have hXe := (Below.heap_alloc w4 ob w2.heap.size hsd).trans hXd
  have hrae := (Below.heap_alloc w4 ob w.heap.size (by omega)).trans hrad
  have hce := hcd.alloc ob
  have hble := hbld.alloc hbld.size ob
  have hLsz : w4.heap.size < (w4.alloc ob).heap.size := by simp
  have hne4 : w4.heap.size ≠ w.heap.size + 1 := by omega
  generalize w4.alloc ob = w5 at *
  have k0 := cell_of_row w5 _ 0 _ _ _ hXe
  have k1 := cell_of_row w5 _ 1 _ _ _ hXe
  have k2 := cell_of_row w5 _ 2 _ _ _ hXe
  simp only [List.getElem?_toArray, List.getElem?_cons_succ, List.getElem?_cons_zero] at k0 k1 k2
  refine hK.out _ _ ⟨k0, k1, k2⟩ (fun _ => ?_)
  clear hK K
  try simp only [Act.put, List.setIfInBounds_toArray, List.set_cons_zero, List.set_cons_succ]
  refine wpAnyH_ready (rs := [3]) (by decide +kernel) (by simp) (AllReadyH.cons rfl (fun K hK => ?_) AllReadyH.nil)
  go_simp
  refine (spec_l1Int (w.heap.size + 1) w4.heap.size [0, 1, 2, 5, 1000, 1001, -1] _ _ _ _ hce rfl (by decide) (hL.trans (congrArg some hob.symm)) hne4 (by decide)).mono ?_
  rintro e w6 ⟨z, hz, rfl, hc6, hg6⟩
  have hr : -1 ≤ z ∧ z ≤ 1001 := by
    simp only [List.mem_cons, List.not_mem_nil, or_false] at hz
    omega
  clear hz
  have hbl6 := hble.trans (below_of_only hg6 (by omega) hble.size)
  have hX6 := (hg6.block w2.heap.size (by omega) (by simp; omega)).trans hXe
  have hra6 := (hg6.block w.heap.size (by omega) (by simp)).trans hrae
  go_wp2_with fail
  have k0 := cell_of_row w6 _ 0 _ _ _ hX6
  have k1 := cell_of_row w6 _ 1 _ _ _ hX6
  have k2 := cell_of_row w6 _ 2 _ _ _ hX6
  have r0 := cell_of_row w6 _ 0 _ _ _ hra6
  have r1 := cell_of_row w6 _ 1 _ _ _ hra6
  have r2 := cell_of_row w6 _ 2 _ _ _ hra6
  have rf : ∀ j, w6.frozen? ⟨w.heap.size, j, none⟩ = false := fun j => frozen_of_row _ _ j _ _ hra6
  simp only [List.getElem?_toArray, List.getElem?_cons_succ, List.getElem?_cons_zero] at k0 k1 k2 r0 r1 r2
  have n1 : w.heap.size ≠ w2.heap.size := by omega
  have HBL := Lib.hid hbl6
  have HPW := Lib.hid hpw
  have hsk : ∀ (W : World) (b o : Nat) (u : Value) (j : Nat), b ≠ w2.heap.size → (W.setCell ⟨b, o, none⟩ u).cell? ⟨w2.heap.size, j, none⟩ = W.cell? ⟨w2.heap.size, j, none⟩ := fun W b o u j hb => World.cell?_setCell_other _ _ _ _ (by simp <;> omega)
  refine hK.out _ _ ⟨k0, k1, k2⟩ (fun _ => ?_)
  clear hK K hg6 hX6 hra6 hbl6 hXe hrae hce hble hLsz hL hob hcd hrad hXd hbld hsd hpw hH hX hra3 hc3 hbl3 hs3 z0 z1 z2
  try simp only [Act.put, List.setIfInBounds_toArray, List.set_cons_zero, List.set_cons_succ]
  refine wpAnyH_ready (rs := [4]) (by decide +kernel) (by simp) (AllReadyH.cons rfl (fun K hK => ?_) AllReadyH.nil)
  go_simp
  refine hK.out _ _ ⟨by rw [hsk _ _ _ _ _ n1, hsk _ _ _ _ _ n1, hsk _ _ _ _ _ n1]; exact k0, by rw [hsk _ _ _ _ _ n1, hsk _ _ _ _ _ n1, hsk _ _ _ _ _ n1]; exact k1, by rw [hsk _ _ _ _ _ n1, hsk _ _ _ _ _ n1, hsk _ _ _ _ _ n1]; exact k2⟩ (fun _ => ?_)
  clear hK K
  try simp only [Act.put, List.setIfInBounds_toArray, List.set_cons_zero, List.set_cons_succ]
  refine wpAnyH_ready (rs := [5]) (by decide +kernel) (by simp) (AllReadyH.cons rfl (fun K hK => ?_) AllReadyH.nil)
  go_simp
  refine hK.out _ _ ⟨by rw [hsk _ _ _ _ _ n1, hsk _ _ _ _ _ n1, hsk _ _ _ _ _ n1]; exact k0, by rw [hsk _ _ _ _ _ n1, hsk _ _ _ _ _ n1, hsk _ _ _ _ _ n1]; exact k1, by rw [hsk _ _ _ _ _ n1, hsk _ _ _ _ _ n1, hsk _ _ _ _ _ n1]; exact k2⟩ (fun _ => ?_)
  clear hK K hsk
  try simp only [Act.put, List.setIfInBounds_toArray, List.set_cons_zero, List.set_cons_succ]
  refine wpAnyH_done (by decide +kernel) ?_ _
  go_wp2
  refine bodyPost_ret (by rw [results_cell_tmpF rfl]; go_simp; try rfl) rfl ?_
  exact ⟨⟨p0, p1, p2⟩, z, HPW.out, hr, rfl, ((HBL.out.setCell (Nat.le_refl _) _).setCell (Nat.le_refl _) _).setCell (Nat.le_refl _) _⟩
theorem results_tmp3 {fn : Func} {p q r : Tmp} (h : fn.results = #[.tmp p, .tmp q, .tmp r]) (tmps : Array Value) (P : Program) (w : World) :
    (results fn tmps).run P w = .ok (.tuple #[tmps.getD p undef, tmps.getD q undef, tmps.getD r undef]) w := by
  simp only [results, h]
  simp [Sem.run_bind, Result.andThen]
theorem info_tlyD : (Try.prog.info? 92).map (fun i => (i.zero, i.size, i.bytes)) = some (some (.agg #[.int .i64 0, .int .i64 0, .int .i64 0]), 3, 24) := by kernel_rfl
theorem tlycells_snoc (zs : List Tly) (p : Tly) : tlycells (zs ++ [p]) = tlycells zs ++ [.int .i64 p.inn, .int .i64 p.out, .int .i64 p.room] := by simp [tlycells, Tly.cells]
set_option maxRecDepth 100000 in
set_option maxHeartbeats 2000000 in
theorem spec_DrawCanHold (A : Option Addr) (n c B : Nat) (zs : List Int) (w : World) (hb : Bytes w B A n zs) (hB : B ≤ w.heap.size) (hn : n ≤ 1048576) :
    Calls Try.prog 70 #[.slice A n c] w fun e w' => ∃ (A' : Option Addr) (n' c' : Nat) (l : List Tly) (st m : Int), n' ≤ 3 ∧ (-1 ≤ st ∧ st ≤ 3) ∧ (0 ≤ m ∧ m ≤ 1001) ∧ e = .returned (.tuple #[.slice A' n' c', .int .i64 st, .int .i64 m]) ∧ TlysAt w' w'.heap.size A' n' l ∧ Below w.heap.size w w' := by
  go_enter Try.func70, Try.ntmps70
  go_wp2_with fail
  refine (spec_l1New A n c B zs _ hb hB hn).mono ?_
  rintro e w1 ⟨rfl, hc1, hb1⟩
  have hlt := hc1.lt
  have hrow0 : (w1.alloc (.cells #[] 92)).ownsRow (w.heap.size + 1) 92 3 (.slice (some ⟨w1.heap.size, 0, none⟩) 0 0) 0 [] := ⟨rfl, .inr ⟨w1.heap.size, 0, #[], rfl, hlt, heap_alloc_new w1 _, Nat.le_refl _, by decide, rfl, rfl⟩⟩
  have hb1a := hb1.alloc hb1.size (.cells #[] 92)
  have hc1a := hc1.alloc (.cells #[] 92)
  have hne1 : w1.heap.size ≠ w.heap.size := by omega
  clear hb hb1 hc1
  go_wp2_with fail
  refine (spec_l1Below w.heap.size 4 _ hc1a (by omega)).mono ?_
  rintro e w2 ⟨x, hx, rfl, hc2, hg2⟩
  have hrow2 := ownr_grown hrow0 hg2 (by intro g e; simp only [Value.ownBlock, Option.map_some, Option.some.injEq] at e; subst e; simp; omega)
  have hb2 := hb1a.trans (below_of_only hg2 (Nat.le_refl _) hb1a.size)
  clear hrow0 hg2 hb1a hc1a
  go_wp2
  go_loopw [6, 7] (fun v i wr => ∃ (k q : Nat) (l : List Tly), q + k ≤ 3 ∧ i = .int .i64 k ∧ l.length = q ∧ wr.ownsRow (w.heap.size + 1) 92 3 v q (tlycells l) ∧ Curs wr w.heap.size ∧ Below w.heap.size w wr) (fun _ i _ => (intOf i).toNat)
  case atStart => exact ⟨x, 0, [], by omega, rfl, rfl, hrow2, hc2, hb2⟩
  case round =>
    clear hrow2 hc2 hb2
    obtain ⟨k, q, l, hk, rfl, hl, hrow, hcr, hbl⟩ := hrel
    have hsz := hbl.size
    by_cases hk0 : 0 < k
    · have i1 : ((k : Int) > 0) := by omega
      have hwk : IntKind.i64.wrap ((k : Int) - 1) = ((k - 1 : Nat) : Int) := by rw [IntKind.wrap_i64]; omega
      have HK := Lib.hid hk0
      clear hk0
      go_wp2_with fail
      refine (spec_l26Any w.heap.size _ hcr).mono ?_
      rintro e w3 ⟨⟨p0, p1, p2⟩, hpw, rfl, hc3, hg3⟩
      simp only [Tly.val]
      have hrow3 := ownr_grown hrow hg3 (by intro g e; have := (ownr_block hrow g e).1; simp; omega)
      have hb3 := hbl.trans (below_of_only hg3 (Nat.le_refl _) hsz)
      have hs3 := hb3.size
      have hl3 := hc3.lt
      have HL : Hid (tlycells (l ++ [⟨p0, p1, p2⟩]) = tlycells l ++ [.int .i64 p0, .int .i64 p1, .int .i64 p2]) := Lib.hid (tlycells_snoc l ⟨p0, p1, p2⟩)
      have HLL := Lib.hid hl
      have HC3 := Lib.hid hc3
      have HB3 := Lib.hid hb3
      clear hg3 hrow hcr hbl hpw hl hc3 hb3
      go_wp2_with (at_builtin; refine wpList_appR1 rfl _ _ 98 rfl 92 _ 3 24 Try.underlying98 info_tlyD rfl (by decide) (by decide) (w.heap.size + 1) _ _ _ rfl hrow3 (by omega) [.int .i64 p0, .int .i64 p1, .int .i64 p2] rfl (by simp [Value.oneCell']) _ _ w3.heap.size hl3 rfl (by simp) ?_; intro v4 w4 hr4 hgrow4 hat4; clear hat4)
      have HC4 := Lib.hid (HC3.out.below (ownr_push hrow3 (Nat.le_refl _) ((Below.refl _ _).alloc hl3 _) (by simp; omega) hgrow4))
      have HB4 := Lib.hid (ownr_push hrow3 (Nat.le_succ _) (HB3.out.alloc hs3 _) (by simp; omega) hgrow4)
      have HR4 := Lib.hid hr4
      clear hgrow4 hr4 hrow3
      go_roundw
      case rel => exact ⟨k - 1, q + 1, l ++ [⟨p0, p1, p2⟩], by have := HK.out; omega, rfl, by have := HLL.out; simp; omega, by rw [HL.out]; exact HR4.out, HC4.out, HB4.out⟩
      case measure => have := HK.out; simp [intOf]; omega
    · have i1 : ¬ ((k : Int) > 0) := by omega
      clear hk0
      go_wp2_with fail
      refine (spec_l1Below w.heap.size 5 _ hcr (by omega)).mono ?_
      rintro e w3 ⟨y, hy, rfl, hc3, hg3⟩
      have hwy : IntKind.i64.wrap ((y : Int) - 1) = (y : Int) - 1 := by rw [IntKind.wrap_i64]; omega
      have hrow3 := ownr_grown hrow hg3 (by intro g e; have := (ownr_block hrow g e).1; simp; omega)
      have hb3 := hbl.trans (below_of_only hg3 (Nat.le_refl _) hsz)
      have hs3 := hb3.size
      have hl3 := hc3.lt
      clear hg3 hrow hcr hbl
      go_wp2_with fail
      refine (spec_l1Int w.heap.size _ [0, 1, 4, 1001] _ _ _ _ (hc3.alloc _) rfl (by decide) (heap_alloc_new w3 _) (by omega) (by decide)).mono ?_
      rintro e w5 ⟨z, hz, rfl, hc5, hg5⟩
      have hr : 0 ≤ z ∧ z ≤ 1001 := by
        simp only [List.mem_cons, List.not_mem_nil, or_false] at hz
        omega
      clear hz
      have hrow5 := ownr_grown (World.ownsRow.alloc hrow3 _) hg5 (by intro g e; have := (ownr_block hrow3 g e).1; simp; omega)
      have HB5 := Lib.hid (hb3.trans (below_of_only (only_new hg5) (Nat.le_refl _) hs3))
      obtain ⟨A', c', rfl⟩ := ownr_sliced hrow5
      have HROW := Lib.hid (show TlysAt w5 w5.heap.size A' q l from ⟨hl, ownr_cells hrow5⟩)
      clear hrow3 hb3 hc3 hg5 hrow5
      go_wp2
      refine bodyPost_ret (results_tmp3 rfl _ _ _) rfl ?_
      exact ⟨A', q, c', l, _, z, by omega, ⟨by omega, by omega⟩, hr, rfl, HROW.out, HB5.out⟩
end Go.Proofs.Ytdlcjmdkafebpaa
