/- The walk of 'FnExactPlanAfter' (written by exrow1.py). -/
import Derived.Test.YtdlcjmdkafebpaaLawAgr
import Derived.Deep.RegionHeld3
namespace Go.Proofs.Ytdlcjmdkafebpaa
open Go.RowKit
set_option linter.unusedVariables false

theorem box_PlanAfter {w : World} {g : Nat} {v0 v1 v2 : Value} {E : TypeId} {fr : Nat × Nat} (h : w.heap[g]? = some (.cells #[v0, v1, v2] E fr)) : w.cell? ⟨g, 0, none⟩ = some v0 ∧ w.cell? ⟨g, 1, none⟩ = some v1 ∧ w.cell? ⟨g, 2, none⟩ = some v2 :=
  ⟨by rw [cell_of_row w g 0 _ E fr h]; rfl, by rw [cell_of_row w g _ _ E fr h]; rfl, by rw [cell_of_row w g _ _ E fr h]; rfl⟩
set_option maxHeartbeats 4000000 in
set_option maxRecDepth 100000 in
theorem walk_FnExactPlanAfter (W : World) (A0 : Option Addr) (n0 c0 : Nat) (zs0 : List Int) (x0 x1 : Int) (ha : (IntsAt .i64 W W.heap.size A0 n0 zs0 ∧ (∀ z ∈ zs0, (Lit.int .i64 z).wf = true) ∧ n0 ≤ c0 ∧ c0 ≤ maxLen) ∧ (Lit.int .i64 x0).wf = true ∧ (Lit.int .i64 x1).wf = true) (a1 : Int) (wa1 : (Lit.int .i64 a1).wf = true) (a2 : Int) (wa2 : (Lit.int .i64 a2).wf = true) :
    Calls Try.prog 4 #[.agg #[.int .i64 x0, .int .i64 x1, .slice A0 n0 c0], .int .i64 a1, .int .i64 a2] W fun e w' => e = .returned (.bool true) ∧ Below W.heap.size W w' := by
  obtain ⟨⟨hi, hw, hc1, hc2⟩, wx0, wx1⟩ := ha
  have hm := Nat.le_trans hc1 hc2
  unfold maxLen at hm
  obtain ⟨r0, hr⟩ : ∃ r0, planAft zs0 x0 x1 a1 a2 = r0 := ⟨_, rfl⟩
  have HR := Lib.hid hr
  clear hr hc1 hc2
  obtain ⟨wB, hwB⟩ : ∃ wB, wB = W.alloc (.cells #[.int .i64 x0, .int .i64 x1, .slice A0 n0 c0] 24) := ⟨_, rfl⟩
  obtain ⟨hk, hsz, acc⟩ := one_block hwB
  have ltB : W.heap.size < wB.heap.size := by omega
  obtain ⟨y0, y1, y2⟩ := box_PlanAfter hk
  clear hsz
  go_enter Try.func4, Try.ntmps4
  go_wp2_with fail
  rw [← hwB]
  clear hwB
  refine (sz1_tur A0 n0 c0 x0 x1 1048576 _ (by omega) ⟨by omega, by omega⟩).mono ?_
  rintro e w1 ⟨rfl, hb⟩
  clear y0 y1 y2
  replace hk := (hb.block _ ltB).trans hk
  replace ltB := Nat.lt_of_lt_of_le ltB hb.size
  obtain ⟨y0, y1, y2⟩ := box_PlanAfter hk
  replace acc := acc.trans (hb.mono acc.size)
  clear hb
  by_cases hz : (n0 : Int) ≤ 1048576
  rotate_left
  · rw [if_neg hz]
    go_wp2
    go_ret
    exact ⟨rfl, acc⟩
  rw [if_pos hz]
  have hb0 : n0 ≤ 1048576 := by omega
  go_wp2_with fail
  refine (law_toTurn A0 n0 c0 W.heap.size zs0 x0 x1 _ (hi.keep fun _ hp => acc.cell hp) acc.size hb0).mono ?_
  rintro e w ⟨p1, rfl, ho, hb⟩
  clear y0 y1 y2
  replace hk := (hb.block _ ltB).trans hk
  replace ltB := Nat.lt_of_lt_of_le ltB hb.size
  obtain ⟨y0, y1, y2⟩ := box_PlanAfter hk
  replace acc := acc.trans (hb.mono acc.size)
  clear hb
  have t1 := Ow.new ho
  clear ho
  go_wp2_with fail
  refine (sp_PlanAfter (some p1) n0 n0 zs0 x0 x1 a1 a2 _ (t1.sl (by omega) hw) hb0 wx0 wx1 wa1 wa2 r0 HR.out).mono ?_
  rintro e w ⟨rfl, hb⟩
  replace t1 := t1.below hb
  clear y0 y1 y2
  replace hk := (hb.block _ ltB).trans hk
  replace ltB := Nat.lt_of_lt_of_le ltB hb.size
  obtain ⟨y0, y1, y2⟩ := box_PlanAfter hk
  replace acc := acc.trans (hb.mono acc.size)
  clear hb
  clear t1
  go_wp2_with fail
  refine (law_toTurn A0 n0 c0 W.heap.size zs0 x0 x1 _ (hi.keep fun _ hp => acc.cell hp) acc.size hb0).mono ?_
  rintro e w ⟨p2, rfl, ho, hb⟩
  clear y0 y1 y2
  replace hk := (hb.block _ ltB).trans hk
  replace ltB := Nat.lt_of_lt_of_le ltB hb.size
  obtain ⟨y0, y1, y2⟩ := box_PlanAfter hk
  replace acc := acc.trans (hb.mono acc.size)
  clear hb
  have t2 := Ow.new ho
  clear ho
  obtain ⟨wC, hwC⟩ : ∃ wC, wC = w.alloc (.cells #[.int .i64 x0, .int .i64 x1, .slice (some p2) n0 n0] 27) := ⟨_, rfl⟩
  obtain ⟨hkC, hszC, hb⟩ := one_block hwC
  have ltC : w.heap.size < wC.heap.size := by omega
  obtain ⟨gC, hgC⟩ : ∃ gC, gC = w.heap.size := ⟨_, rfl⟩
  have hkC' : wC.heap[gC]? = some (.cells #[.int .i64 x0, .int .i64 x1, .slice (some p2) n0 n0] 27) := by rw [hgC]; exact hkC
  have ltC' : gC < wC.heap.size := by rw [hgC]; exact ltC
  obtain ⟨z0, z1, z2⟩ := box_PlanAfter hkC'
  replace t2 := t2.below hb
  clear y0 y1 y2
  replace hk := (hb.block _ ltB).trans hk
  replace ltB := Nat.lt_of_lt_of_le ltB hb.size
  obtain ⟨y0, y1, y2⟩ := box_PlanAfter hk
  replace acc := acc.trans (hb.mono acc.size)
  clear hb
  go_wp2_with fail
  rw [← hwC, ← hgC]
  clear hwC hgC hkC ltC hszC
  have hkC := hkC'
  have ltC := ltC'
  clear hkC' ltC'
  refine (im_PlanAfter (some p2) n0 n0 zs0 x0 x1 a1 a2 _ (t2.sl (by omega) hw) hb0 wx0 wx1 wa1 wa2 r0 HR.out).mono ?_
  rintro e w ⟨rfl, hb⟩
  replace t2 := t2.below hb
  clear y0 y1 y2
  replace hk := (hb.block _ ltB).trans hk
  replace ltB := Nat.lt_of_lt_of_le ltB hb.size
  obtain ⟨y0, y1, y2⟩ := box_PlanAfter hk
  clear z0 z1 z2
  replace hkC := (hb.block _ ltC).trans hkC
  replace ltC := Nat.lt_of_lt_of_le ltC hb.size
  obtain ⟨z0, z1, z2⟩ := box_PlanAfter hkC
  replace acc := acc.trans (hb.mono acc.size)
  clear hb
  go_wp2
  go_region_held3 (fun W' => W'.cell? ⟨W.heap.size, 0, none⟩ = some (.int .i64 x0) ∧ W'.cell? ⟨W.heap.size, 1, none⟩ = some (.int .i64 x1) ∧ W'.cell? ⟨W.heap.size, 2, none⟩ = some (.slice A0 n0 c0) ∧ W'.cell? ⟨gC, 0, none⟩ = some (.int .i64 x0) ∧ W'.cell? ⟨gC, 1, none⟩ = some (.int .i64 x1) ∧ W'.cell? ⟨gC, 2, none⟩ = some (.slice (some p2) n0 n0)) (first | exact ⟨y0, y1, y2, z0, z1, z2⟩ | fail "keep")
    (first
      | (go_at_call 17; refine (law_toTurn A0 n0 c0 W.heap.size zs0 x0 x1 _ (by exact hi.keep fun _ hp => acc.cell hp) (by exact acc.size) hb0).mono ?_; rintro e w ⟨p3, rfl, ho, hb⟩; (try simp only [heap_drew] at ho); (first | replace hb := below_undrew hb | skip); replace t2 := t2.below hb; clear y0 y1 y2; replace hk := (hb.block _ ltB).trans hk; replace ltB := Nat.lt_of_lt_of_le ltB hb.size; obtain ⟨y0, y1, y2⟩ := box_PlanAfter hk; clear z0 z1 z2; replace hkC := (hb.block _ ltC).trans hkC; replace ltC := Nat.lt_of_lt_of_le ltC hb.size; obtain ⟨z0, z1, z2⟩ := box_PlanAfter hkC; replace acc := acc.trans (hb.mono acc.size); clear hb; have t3 := Ow.new ho; clear ho)
      | (go_at_call 19; refine (law_eqTurn (some p2) n0 n0 _ zs0 x0 x1 (some p3) n0 n0 _ t2.ints t3.ints (Nat.le_refl _) (by omega)).mono ?_; rintro e w ⟨rfl, hb⟩; (first | replace hb := below_undrew hb | skip); replace t2 := t2.below hb; replace t3 := t3.below hb; clear y0 y1 y2; replace hk := (hb.block _ ltB).trans hk; replace ltB := Nat.lt_of_lt_of_le ltB hb.size; obtain ⟨y0, y1, y2⟩ := box_PlanAfter hk; clear z0 z1 z2; replace hkC := (hb.block _ ltC).trans hkC; replace ltC := Nat.lt_of_lt_of_le ltC hb.size; obtain ⟨z0, z1, z2⟩ := box_PlanAfter hkC; replace acc := acc.trans (hb.mono acc.size); clear hb))
  go_wp2
  go_ret
  exact ⟨rfl, acc⟩
end Go.Proofs.Ytdlcjmdkafebpaa
