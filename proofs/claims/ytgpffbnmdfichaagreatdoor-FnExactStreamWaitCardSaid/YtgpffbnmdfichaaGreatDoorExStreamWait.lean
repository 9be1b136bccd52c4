/- The walk of 'FnExactStreamWait' (written by genexstw.py). -/
import Derived.Test.YtgpffbnmdfichaaGreatDoorBndlF
import Derived.Deep.RegionHeld3
namespace Go.Proofs.YtgpffbnmdfichaaGreatDoor
open Go.RowKit
set_option linter.unusedVariables false
set_option linter.unusedSimpArgs false

theorem sp_StreamWait (A0 : Option Addr) (n0 c0 : Nat) (zs0 : List Pth) (A1 : Option Addr) (n1 c1 : Nat) (zs1 : List Prt) (A2 : Option Addr) (n2 c2 B2 : Nat) (zs2 : List Int) (x0 : Int) (w : World) (h0 : SlP w A0 n0 c0 zs0) (hs0 : n0 ≤ 1048576) (h1 : SlQ w A1 n1 c1 zs1) (hs1 : SmallP zs1) (h2 : IntsAt .i64 w B2 A2 n2 zs2) (hB2 : B2 ≤ w.heap.size) (hs2 : n2 ≤ 1048576) (r : Int) (hr : strW zs0 zs1 ⟨x0, zs2⟩ = r) :
    Calls Tryz.prog 13 #[.slice A0 n0 c0, .slice A1 n1 c1, .agg #[.int .i64 x0, .slice A2 n2 c2]] w fun e w' => e = .returned (.int .i64 r) ∧ Below w.heap.size w w' := by
  subst hr
  have hq1 := h1.prts.1
  have hz1 := hs1.1
  exact spec_StreamWait A0 n0 c0 _ zs0 A1 n1 c1 _ zs1 w h0.pths (Nat.le_refl _) (by omega) h1.prts (Nat.le_refl _) (by omega) (hs1.at _ _ hq1.symm (Nat.le_refl _)) ⟨x0, zs2⟩ A2 n2 c2 B2 h2 hB2 hs2
theorem im_StreamWait (A0 : Option Addr) (n0 c0 : Nat) (zs0 : List Pth) (A1 : Option Addr) (n1 c1 : Nat) (zs1 : List Prt) (A2 : Option Addr) (n2 c2 B2 : Nat) (zs2 : List Int) (x0 : Int) (w : World) (h0 : SlP w A0 n0 c0 zs0) (hs0 : n0 ≤ 1048576) (h1 : SlQ w A1 n1 c1 zs1) (hs1 : SmallP zs1) (h2 : IntsAt .i64 w B2 A2 n2 zs2) (hB2 : B2 ≤ w.heap.size) (hs2 : n2 ≤ 1048576) (hv0 : Brus w) (hv1 : Clrs w) (r : Int) (hr : strW zs0 zs1 ⟨x0, zs2⟩ = r) :
    Calls Tryz.prog 17 #[.slice A0 n0 c0, .slice A1 n1 c1, .agg #[.int .i64 x0, .slice A2 n2 c2]] w fun e w' => e = .returned (.int .i64 r) ∧ Below w.heap.size w w' := by
  subst hr
  have hq1 := h1.prts.1
  have hz1 := hs1.1
  exact impl_StreamWait ⟨h0.pths, Nat.le_refl _, h0.cap, by omega, h1.prts, Nat.le_refl _, by omega, hs1.at _ _ hq1.symm (Nat.le_refl _), hv0, hv1⟩ ⟨x0, zs2⟩ A2 n2 c2 B2 h2 hB2 hs2
theorem box_St {w : World} {g : Nat} {v0 v1 : Value} {E : TypeId} {fr : Nat × Nat} (h : w.heap[g]? = some (.cells #[v0, v1] E fr)) : w.cell? ⟨g, 0, none⟩ = some v0 ∧ w.cell? ⟨g, 1, none⟩ = some v1 :=
  ⟨(cell_of_row w g 0 _ _ _ h).trans rfl, (cell_of_row w g 1 _ _ _ h).trans rfl⟩
theorem below_undrewSt {w u : World} (h : Below w.drew.heap.size w.drew u) : Below w.heap.size w u := ⟨h.os, h.tape, h.output, h.size, h.block⟩
set_option maxHeartbeats 8000000 in
set_option maxRecDepth 100000 in
theorem walk_FnExactStreamWait (W : World) (A0 : Option Addr) (n0 c0 : Nat) (zs0 : List Pth) (ha0 : PthsAt W W.heap.size A0 n0 zs0 ∧ (∀ z ∈ zs0, z.wf) ∧ n0 ≤ c0 ∧ c0 ≤ maxLen) (A1 : Option Addr) (n1 c1 : Nat) (zs1 : List Prt) (ha1 : PrtsAt W W.heap.size A1 n1 zs1 ∧ (∀ z ∈ zs1, z.wf) ∧ n1 ≤ c1 ∧ c1 ≤ maxLen) (A2 : Option Addr) (n2 c2 : Nat) (zs2 : List Int) (x0 : Int) (ha2 : (IntsAt .i64 W W.heap.size A2 n2 zs2 ∧ (∀ z ∈ zs2, (Lit.int .i64 z).wf = true) ∧ n2 ≤ c2 ∧ c2 ≤ maxLen) ∧ (Lit.int .i64 x0).wf = true) (hv0 : Brus W) (hv1 : Clrs W) :
    Calls Tryz.prog 3 #[.slice A0 n0 c0, .slice A1 n1 c1, .agg #[.int .i64 x0, .slice A2 n2 c2]] W fun e w' => e = .returned (.bool true) ∧ Below W.heap.size W w' := by
  have hm0 := Nat.le_trans ha0.2.2.1 ha0.2.2.2
  have hm1 := Nat.le_trans ha1.2.2.1 ha1.2.2.2
  have hm2 := Nat.le_trans ha2.1.2.2.1 ha2.1.2.2.2
  unfold maxLen at hm0 hm1 hm2
  obtain ⟨hi0, hw0, -, -⟩ := ha0
  obtain ⟨hi1, hw1, -, -⟩ := ha1
  obtain ⟨⟨hi2, hw2, -, -⟩, wx0⟩ := ha2
  obtain ⟨r0, hr⟩ : ∃ r0, strW zs0 zs1 ⟨x0, zs2⟩ = r0 := ⟨_, rfl⟩
  have HR := Lib.hid hr
  clear hr
  have HV0 := Lib.hid hv0
  clear hv0
  have HV1 := Lib.hid hv1
  clear hv1
  obtain ⟨wB, hwB⟩ : ∃ wB, wB = W.alloc (.cells #[.int .i64 x0, .slice A2 n2 c2] 26) := ⟨_, rfl⟩
  obtain ⟨hk, hsz, acc⟩ := one_block hwB
  have ltB : W.heap.size < wB.heap.size := by omega
  obtain ⟨y0, y1⟩ := box_St hk
  clear hsz
  have hmx : Tryz.prog.follows .mixedOrders = true := by kernel_rfl
  go_enter Tryz.func3, Tryz.ntmps3
  go_wp2_with fail
  rw [← hwB]
  clear hwB
  refine (sz_pth _ n0 _ 1048576 _ (by omega) (by omega)).mono ?_
  rintro e w' ⟨rfl, rfl⟩
  by_cases hz0 : (n0 : Int) ≤ 1048576
  rotate_left
  · rw [if_neg hz0]
    go_wp2
    go_ret
    exact ⟨rfl, acc⟩
  rw [if_pos hz0]
  have hb0 : n0 ≤ 1048576 := by omega
  have hg1 : ∀ j, j < n1 → (prAt zs1 j).stage.length ≤ 9223372036854775807 := fun j hj => by
    have hl := hi1.1
    have hz := (hw1 _ (prAt_mem (k := j) (by omega))).1
    unfold maxLen at hz
    omega
  go_wp2_with fail
  refine (sz_prt A1 n1 c1 W.heap.size zs1 (1048576 - (n0 : Int)) _ (hi1.keep acc) acc.size (by omega) hg1 ⟨by omega, by omega⟩).mono ?_
  rintro e wz1 ⟨⟨q1, rfl, hq1⟩, hb⟩
  clear hg1
  clear y0 y1
  replace hk := (hb.block _ ltB).trans hk
  replace ltB := Nat.lt_of_lt_of_le ltB hb.size
  obtain ⟨y0, y1⟩ := box_St hk
  replace acc := acc.trans (hb.mono acc.size)
  clear hb
  rcases hq1 with hq1 | ⟨hqa1, hqb1, hqc1, hqd1⟩
  · go_wp2
    go_ret
    exact ⟨rfl, acc⟩
  have hb1 : n1 ≤ 1048576 := by omega
  have hsm1 : SmallP zs1 := ⟨by have := hi1.1; omega, fun j hj => by have := hqd1 j (by have := hi1.1; omega); omega⟩
  have hlz1 := hi1.1.symm
  have HLZ1 := Lib.hid hlz1
  clear hqd1 hlz1
  go_wp2_with fail
  refine (sz1_stm A2 n2 c2 x0 q1 _ (by omega) ⟨by omega, by omega⟩).mono ?_
  rintro e wz2 ⟨rfl, hb⟩
  clear y0 y1
  replace hk := (hb.block _ ltB).trans hk
  replace ltB := Nat.lt_of_lt_of_le ltB hb.size
  obtain ⟨y0, y1⟩ := box_St hk
  replace acc := acc.trans (hb.mono acc.size)
  clear hb
  by_cases hz2 : (n2 : Int) ≤ q1
  rotate_left
  · rw [if_neg hz2]
    go_wp2
    go_ret
    exact ⟨rfl, acc⟩
  rw [if_pos hz2]
  have hb2 : n2 ≤ 1048576 := by omega
  go_wp2
  refine wp_region_held_drew (S := fun W' => W'.cell? ⟨W.heap.size, 0, none⟩ = some (.int .i64 x0) ∧ W'.cell? ⟨W.heap.size, 1, none⟩ = some (.slice A2 n2 c2)) hmx ⟨y0, y1⟩ (fun hH => ?_)
  refine wpAnyH_take (i := 0) (v := .slice A0 n0 c0) rfl (by kernel_rfl) (by kernel_rfl) (by kernel_rfl) (fun _ _ _ h => h) (Or.inl ⟨by rfl, by intro w hSw; go_simp⟩) hH ?_
  try simp only [Act.put, List.setIfInBounds_toArray, List.set_cons_zero, List.set_cons_succ]
  refine wpAnyH_take (i := 2) (v := .slice A1 n1 c1) rfl (by kernel_rfl) (by kernel_rfl) (by kernel_rfl) (fun _ _ _ h => h) (Or.inl ⟨by rfl, by intro w hSw; go_simp⟩) hH ?_
  try simp only [Act.put, List.setIfInBounds_toArray, List.set_cons_zero, List.set_cons_succ]
  refine wpAnyH_take (i := 4) (v := .agg #[.int .i64 x0, .slice A2 n2 c2]) rfl (by kernel_rfl) (by kernel_rfl) (by kernel_rfl) (fun _ _ _ h => h) (Or.inl ⟨by rfl, by intro w hSw; obtain ⟨s0, s1⟩ := hSw; go_simp⟩) hH ?_
  try simp only [Act.put, List.setIfInBounds_toArray, List.set_cons_zero, List.set_cons_succ]
  refine wpAnyH_ready (rs := [1]) (by decide +kernel) (by simp) (AllReadyH.cons rfl (fun K hK => ?_) AllReadyH.nil)
  go_simp
  refine (to_pth A0 n0 c0 W.heap.size zs0 _ (by exact hi0.keep fun _ hp => acc.cell hp) (by exact acc.size) (by omega)).mono ?_
  rintro e w1 ⟨rfl, ho, hb⟩
  go_wp2_with fail
  try simp only [heap_drew] at ho
  replace hb := below_undrewSt hb
  clear y0 y1
  replace hk := (hb.block _ ltB).trans hk
  replace ltB := Nat.lt_of_lt_of_le ltB hb.size
  obtain ⟨y0, y1⟩ := box_St hk
  replace acc := acc.trans (hb.mono acc.size)
  clear hb
  have t1 := OwP.new ho
  clear ho
  refine hK.out _ _ ⟨y0, y1⟩ (fun hH => ?_)
  clear hK K
  try simp only [Act.put, List.setIfInBounds_toArray, List.set_cons_zero, List.set_cons_succ]
  refine wpAnyH_ready (rs := [3]) (by decide +kernel) (by simp) (AllReadyH.cons rfl (fun K hK => ?_) AllReadyH.nil)
  go_simp
  refine (to_prt A1 n1 c1 W.heap.size zs1 _ (hi1.keep acc) acc.size (by omega) (hsm1.at n1 _ HLZ1.out (by decide))).mono ?_
  rintro e w2 ⟨rfl, ⟨us_t2, ho⟩, hb⟩
  go_wp2_with fail
  replace t1 := t1.below hb
  clear y0 y1
  replace hk := (hb.block _ ltB).trans hk
  replace ltB := Nat.lt_of_lt_of_le ltB hb.size
  obtain ⟨y0, y1⟩ := box_St hk
  replace acc := acc.trans (hb.mono acc.size)
  clear hb
  have t2 := OwQ.new ho.pe
  clear ho
  refine hK.out _ _ ⟨y0, y1⟩ (fun hH => ?_)
  clear hK K
  try simp only [Act.put, List.setIfInBounds_toArray, List.set_cons_zero, List.set_cons_succ]
  refine wpAnyH_ready (rs := [5]) (by decide +kernel) (by simp) (AllReadyH.cons rfl (fun K hK => ?_) AllReadyH.nil)
  go_simp
  refine (law_toStream A2 n2 c2 W.heap.size zs2 x0 _ (hi2.keep fun _ hp => acc.cell hp) acc.size hb2).mono ?_
  rintro e w3 ⟨p3, rfl, ho, hb⟩
  go_wp2_with fail
  replace t1 := t1.below hb
  replace t2 := t2.below hb
  clear y0 y1
  replace hk := (hb.block _ ltB).trans hk
  replace ltB := Nat.lt_of_lt_of_le ltB hb.size
  obtain ⟨y0, y1⟩ := box_St hk
  replace acc := acc.trans (hb.mono acc.size)
  clear hb
  have t3 := Ow.new ho
  clear ho
  refine hK.out _ _ ⟨y0, y1⟩ (fun hH => ?_)
  clear hK K
  try simp only [Act.put, List.setIfInBounds_toArray, List.set_cons_zero, List.set_cons_succ]
  refine wpAnyH_ready (rs := [6]) (by decide +kernel) (by simp) (AllReadyH.cons rfl (fun K hK => ?_) AllReadyH.nil)
  go_simp
  refine (sp_StreamWait _ n0 _ zs0 _ n1 _ zs1 (some p3) n2 n2 _ zs2 x0 _ (t1.sl (by omega) hw0) hb0 (t2.sl hw1) hsm1 t3.ints (Nat.le_refl _) hb2 r0 HR.out).mono ?_
  rintro e w4 ⟨rfl, hb⟩
  go_wp2_with fail
  replace t1 := t1.below hb
  replace t2 := t2.below hb
  replace t3 := t3.below hb
  clear y0 y1
  replace hk := (hb.block _ ltB).trans hk
  replace ltB := Nat.lt_of_lt_of_le ltB hb.size
  obtain ⟨y0, y1⟩ := box_St hk
  replace acc := acc.trans (hb.mono acc.size)
  clear hb
  clear t1 t2 t3
  refine hK.out _ _ ⟨y0, y1⟩ (fun hH => ?_)
  clear hK K
  try simp only [Act.put, List.setIfInBounds_toArray, List.set_cons_zero, List.set_cons_succ]
  refine wpAnyH_ready (rs := [7]) (by decide +kernel) (by simp) (AllReadyH.cons rfl (fun K hK => ?_) AllReadyH.nil)
  go_simp
  refine hK.out _ _ ⟨y0, y1⟩ (fun hH => ?_)
  clear hK K
  try simp only [Act.put, List.setIfInBounds_toArray, List.set_cons_zero, List.set_cons_succ]
  refine wpAnyH_done (by decide +kernel) ?_ _
  go_wp2_with fail
  refine (to_pth A0 n0 c0 W.heap.size zs0 _ (hi0.keep fun _ hp => acc.cell hp) acc.size (by omega)).mono ?_
  rintro e w5 ⟨rfl, ho, hb⟩
  clear hH
  clear y0 y1
  replace hk := (hb.block _ ltB).trans hk
  replace ltB := Nat.lt_of_lt_of_le ltB hb.size
  obtain ⟨y0, y1⟩ := box_St hk
  replace acc := acc.trans (hb.mono acc.size)
  clear hb
  have t4 := OwP.new ho
  clear ho
  go_wp2_with fail
  refine (to_prt A1 n1 c1 W.heap.size zs1 _ (hi1.keep acc) acc.size (by omega) (hsm1.at n1 _ HLZ1.out (by decide))).mono ?_
  rintro e w6 ⟨rfl, ⟨us_t5, ho⟩, hb⟩
  replace t4 := t4.below hb
  clear y0 y1
  replace hk := (hb.block _ ltB).trans hk
  replace ltB := Nat.lt_of_lt_of_le ltB hb.size
  obtain ⟨y0, y1⟩ := box_St hk
  replace acc := acc.trans (hb.mono acc.size)
  clear hb
  have t5 := OwQ.new ho.pe
  clear ho
  go_wp2_with fail
  refine (law_toStream A2 n2 c2 W.heap.size zs2 x0 _ (hi2.keep fun _ hp => acc.cell hp) acc.size hb2).mono ?_
  rintro e w ⟨p6, rfl, ho, hb⟩
  replace t4 := t4.below hb
  replace t5 := t5.below hb
  clear y0 y1
  replace hk := (hb.block _ ltB).trans hk
  replace ltB := Nat.lt_of_lt_of_le ltB hb.size
  obtain ⟨y0, y1⟩ := box_St hk
  replace acc := acc.trans (hb.mono acc.size)
  clear hb
  have t6 := Ow.new ho
  clear ho
  obtain ⟨wC, hwC⟩ : ∃ wC, wC = w.alloc (.cells #[.int .i64 x0, .slice (some p6) n2 n2] 35) := ⟨_, rfl⟩
  obtain ⟨hkC, hszC, hb⟩ := one_block hwC
  have ltC : w.heap.size < wC.heap.size := by omega
  obtain ⟨gC, hgC⟩ : ∃ gC, gC = w.heap.size := ⟨_, rfl⟩
  have hkC' : wC.heap[gC]? = some (.cells #[.int .i64 x0, .slice (some p6) n2 n2] 35) := by rw [hgC]; exact hkC
  have ltC' : gC < wC.heap.size := by rw [hgC]; exact ltC
  obtain ⟨z0, z1⟩ := box_St hkC'
  replace t4 := t4.below hb
  replace t5 := t5.below hb
  replace t6 := t6.below hb
  clear y0 y1
  replace hk := (hb.block _ ltB).trans hk
  replace ltB := Nat.lt_of_lt_of_le ltB hb.size
  obtain ⟨y0, y1⟩ := box_St hk
  replace acc := acc.trans (hb.mono acc.size)
  clear hb
  go_wp2_with fail
  rw [← hwC, ← hgC]
  clear hwC hgC hkC ltC hszC
  have hkC := hkC'
  have ltC := ltC'
  clear hkC' ltC'
  refine (im_StreamWait _ n0 _ zs0 _ n1 _ zs1 (some p6) n2 n2 _ zs2 x0 _ (t4.sl (by omega) hw0) hb0 (t5.sl hw1) hsm1 t6.ints (Nat.le_refl _) hb2 (HV0.out.below acc (Nat.le_refl _)) (HV1.out.below acc (Nat.le_refl _)) r0 HR.out).mono ?_
  rintro e w8 ⟨rfl, hb⟩
  replace t4 := t4.below hb
  replace t5 := t5.below hb
  replace t6 := t6.below hb
  clear y0 y1
  replace hk := (hb.block _ ltB).trans hk
  replace ltB := Nat.lt_of_lt_of_le ltB hb.size
  obtain ⟨y0, y1⟩ := box_St hk
  clear z0 z1
  replace hkC := (hb.block _ ltC).trans hkC
  replace ltC := Nat.lt_of_lt_of_le ltC hb.size
  obtain ⟨z0, z1⟩ := box_St hkC
  replace acc := acc.trans (hb.mono acc.size)
  clear hb
  go_wp2_with fail
  refine (to_pth A0 n0 c0 W.heap.size zs0 _ (hi0.keep fun _ hp => acc.cell hp) acc.size (by omega)).mono ?_
  rintro e w9 ⟨rfl, ho, hb⟩
  replace t4 := t4.below hb
  replace t5 := t5.below hb
  replace t6 := t6.below hb
  clear y0 y1
  replace hk := (hb.block _ ltB).trans hk
  replace ltB := Nat.lt_of_lt_of_le ltB hb.size
  obtain ⟨y0, y1⟩ := box_St hk
  clear z0 z1
  replace hkC := (hb.block _ ltC).trans hkC
  replace ltC := Nat.lt_of_lt_of_le ltC hb.size
  obtain ⟨z0, z1⟩ := box_St hkC
  replace acc := acc.trans (hb.mono acc.size)
  clear hb
  have t7 := OwP.new ho
  clear ho
  go_wp2_with fail
  refine (eqs_pth _ _ _ zs0 _ _ _ _ t4.ints t7.ints (by omega) (by omega)).mono ?_
  rintro e w10 ⟨rfl, hb⟩
  replace t4 := t4.below hb
  replace t5 := t5.below hb
  replace t6 := t6.below hb
  replace t7 := t7.below hb
  clear y0 y1
  replace hk := (hb.block _ ltB).trans hk
  replace ltB := Nat.lt_of_lt_of_le ltB hb.size
  obtain ⟨y0, y1⟩ := box_St hk
  clear z0 z1
  replace hkC := (hb.block _ ltC).trans hkC
  replace ltC := Nat.lt_of_lt_of_le ltC hb.size
  obtain ⟨z0, z1⟩ := box_St hkC
  replace acc := acc.trans (hb.mono acc.size)
  clear hb
  clear t7
  go_wp2_with fail
  refine (to_prt A1 n1 c1 W.heap.size zs1 _ (hi1.keep acc) acc.size (by omega) (hsm1.at n1 _ HLZ1.out (by decide))).mono ?_
  rintro e w11 ⟨rfl, ⟨us_t8, ho⟩, hb⟩
  replace t4 := t4.below hb
  replace t5 := t5.below hb
  replace t6 := t6.below hb
  clear y0 y1
  replace hk := (hb.block _ ltB).trans hk
  replace ltB := Nat.lt_of_lt_of_le ltB hb.size
  obtain ⟨y0, y1⟩ := box_St hk
  clear z0 z1
  replace hkC := (hb.block _ ltC).trans hkC
  replace ltC := Nat.lt_of_lt_of_le ltC hb.size
  obtain ⟨z0, z1⟩ := box_St hkC
  replace acc := acc.trans (hb.mono acc.size)
  clear hb
  have t8 := OwQ.new ho.pe
  clear ho
  go_wp2_with fail
  refine (eqs_prt _ _ _ zs1 _ _ _ _ t5.ints t8.ints (by omega) (by omega) (hsm1.at _ _ HLZ1.out (by decide)) ).mono ?_
  rintro e w12 ⟨rfl, hb⟩
  replace t4 := t4.below hb
  replace t5 := t5.below hb
  replace t6 := t6.below hb
  replace t8 := t8.below hb
  clear y0 y1
  replace hk := (hb.block _ ltB).trans hk
  replace ltB := Nat.lt_of_lt_of_le ltB hb.size
  obtain ⟨y0, y1⟩ := box_St hk
  clear z0 z1
  replace hkC := (hb.block _ ltC).trans hkC
  replace ltC := Nat.lt_of_lt_of_le ltC hb.size
  obtain ⟨z0, z1⟩ := box_St hkC
  replace acc := acc.trans (hb.mono acc.size)
  clear hb
  clear t8
  go_wp2
  refine wp_region_held_drew (S := fun W' => W'.cell? ⟨W.heap.size, 0, none⟩ = some (.int .i64 x0) ∧ W'.cell? ⟨W.heap.size, 1, none⟩ = some (.slice A2 n2 c2) ∧ W'.cell? ⟨gC, 0, none⟩ = some (.int .i64 x0) ∧ W'.cell? ⟨gC, 1, none⟩ = some (.slice (some p6) n2 n2)) hmx ⟨y0, y1, z0, z1⟩ (fun hH => ?_)
  refine wpAnyH_take (i := 0) (v := .agg #[.int .i64 x0, .slice (some p6) n2 n2]) rfl (by kernel_rfl) (by kernel_rfl) (by kernel_rfl) (fun _ _ _ h => h) (Or.inl ⟨by rfl, by intro w hSw; obtain ⟨s0, s1, s2, s3⟩ := hSw; go_simp⟩) hH ?_
  try simp only [Act.put, List.setIfInBounds_toArray, List.set_cons_zero, List.set_cons_succ]
  refine wpAnyH_take (i := 1) (v := .agg #[.int .i64 x0, .slice A2 n2 c2]) rfl (by kernel_rfl) (by kernel_rfl) (by kernel_rfl) (fun _ _ _ h => h) (Or.inl ⟨by rfl, by intro w hSw; obtain ⟨s0, s1, s2, s3⟩ := hSw; go_simp⟩) hH ?_
  try simp only [Act.put, List.setIfInBounds_toArray, List.set_cons_zero, List.set_cons_succ]
  refine wpAnyH_ready (rs := [2]) (by decide +kernel) (by simp) (AllReadyH.cons rfl (fun K hK => ?_) AllReadyH.nil)
  go_simp
  refine (law_toStream A2 n2 c2 W.heap.size zs2 x0 _ (by exact hi2.keep fun _ hp => acc.cell hp) (by exact acc.size) hb2).mono ?_
  rintro e w13 ⟨p9, rfl, ho, hb⟩
  go_wp2_with fail
  try simp only [heap_drew] at ho
  replace hb := below_undrewSt hb
  replace t4 := t4.below hb
  replace t5 := t5.below hb
  replace t6 := t6.below hb
  clear y0 y1
  replace hk := (hb.block _ ltB).trans hk
  replace ltB := Nat.lt_of_lt_of_le ltB hb.size
  obtain ⟨y0, y1⟩ := box_St hk
  clear z0 z1
  replace hkC := (hb.block _ ltC).trans hkC
  replace ltC := Nat.lt_of_lt_of_le ltC hb.size
  obtain ⟨z0, z1⟩ := box_St hkC
  replace acc := acc.trans (hb.mono acc.size)
  clear hb
  have t9 := Ow.new ho
  clear ho
  refine hK.out _ _ ⟨y0, y1, z0, z1⟩ (fun hH => ?_)
  clear hK K
  try simp only [Act.put, List.setIfInBounds_toArray, List.set_cons_zero, List.set_cons_succ]
  refine wpAnyH_ready (rs := [3]) (by decide +kernel) (by simp) (AllReadyH.cons rfl (fun K hK => ?_) AllReadyH.nil)
  go_simp
  refine (law_eqStream (some p6) n2 n2 _ zs2 x0 (some p9) n2 n2 _ t6.ints t9.ints (Nat.le_refl _) (by omega)).mono ?_
  rintro e w14 ⟨rfl, hb⟩
  go_wp2_with fail
  replace t4 := t4.below hb
  replace t5 := t5.below hb
  replace t6 := t6.below hb
  replace t9 := t9.below hb
  clear y0 y1
  replace hk := (hb.block _ ltB).trans hk
  replace ltB := Nat.lt_of_lt_of_le ltB hb.size
  obtain ⟨y0, y1⟩ := box_St hk
  clear z0 z1
  replace hkC := (hb.block _ ltC).trans hkC
  replace ltC := Nat.lt_of_lt_of_le ltC hb.size
  obtain ⟨z0, z1⟩ := box_St hkC
  replace acc := acc.trans (hb.mono acc.size)
  clear hb
  refine hK.out _ _ ⟨y0, y1, z0, z1⟩ (fun hH => ?_)
  clear hK K
  try simp only [Act.put, List.setIfInBounds_toArray, List.set_cons_zero, List.set_cons_succ]
  refine wpAnyH_take (i := 4) (v := .bool false) rfl (by kernel_rfl) (by kernel_rfl) (by kernel_rfl) (fun _ _ _ h => h) (Or.inl ⟨by rfl, by intro w hSw; go_simp⟩) hH ?_
  try simp only [Act.put, List.setIfInBounds_toArray, List.set_cons_zero, List.set_cons_succ]
  refine wpAnyH_done (by decide +kernel) ?_ _
  go_wp2
  go_ret
  exact ⟨rfl, acc⟩
end Go.Proofs.YtgpffbnmdfichaaGreatDoor
