/- The walk of 'FnExactEqualControls' (written by genctl2.py). -/
import Derived.Test.YtdhhkhabheilkaaBndlA
import Derived.Deep.RegionHeld3
set_option linter.unusedSimpArgs false
namespace Go.Proofs.Ytdhhkhabheilkaa
open Go.RowKit
set_option linter.unusedVariables false

set_option maxHeartbeats 8000000 in
set_option maxRecDepth 100000 in
theorem walk_FnExactEqualControls (W : World) (A0 : Option Addr) (n0 c0 : Nat) (zs0 : List Int) (B0 : Option Addr) (m0 d0 : Nat) (ys0 : List Int) (x0_0 x0_1 : Int) (ha0 : IntsAt .i64 W W.heap.size A0 n0 zs0 ∧ (∀ z ∈ zs0, (Lit.int .i64 z).wf = true) ∧ n0 ≤ c0 ∧ c0 ≤ maxLen) (hy0 : IntsAt .i64 W W.heap.size B0 m0 ys0 ∧ (∀ z ∈ ys0, (Lit.int .i64 z).wf = true) ∧ m0 ≤ d0 ∧ d0 ≤ maxLen) (wx0_0 : (Lit.int .i64 x0_0).wf = true) (wx0_1 : (Lit.int .i64 x0_1).wf = true) (A1 : Option Addr) (n1 c1 : Nat) (zs1 : List Int) (B1 : Option Addr) (m1 d1 : Nat) (ys1 : List Int) (x1_0 x1_1 : Int) (ha1 : IntsAt .i64 W W.heap.size A1 n1 zs1 ∧ (∀ z ∈ zs1, (Lit.int .i64 z).wf = true) ∧ n1 ≤ c1 ∧ c1 ≤ maxLen) (hy1 : IntsAt .i64 W W.heap.size B1 m1 ys1 ∧ (∀ z ∈ ys1, (Lit.int .i64 z).wf = true) ∧ m1 ≤ d1 ∧ d1 ≤ maxLen) (wx1_0 : (Lit.int .i64 x1_0).wf = true) (wx1_1 : (Lit.int .i64 x1_1).wf = true) :
    Calls Try.prog 3 #[.agg #[.slice A0 n0 c0, .int .i64 x0_0, .slice B0 m0 d0, .int .i64 x0_1], .agg #[.slice A1 n1 c1, .int .i64 x1_0, .slice B1 m1 d1, .int .i64 x1_1]] W fun e w' => e = .returned (.bool true) ∧ Below W.heap.size W w' := by
  have hma0 := Nat.le_trans ha0.2.2.1 ha0.2.2.2
  have hmb0 := Nat.le_trans hy0.2.2.1 hy0.2.2.2
  unfold maxLen at hma0 hmb0
  obtain ⟨hi0, hw0, -, -⟩ := ha0
  obtain ⟨hj0, hv0, -, -⟩ := hy0
  have HTO0 := Lib.hid (fun (w : World) (hx : Below W.heap.size W w) hn hn' => to_ctl A0 n0 c0 W.heap.size zs0 x0_0 B0 m0 d0 W.heap.size ys0 x0_1 w (hi0.keep fun _ hp => hx.cell hp) hx.size hn (hj0.keep fun _ hp => hx.cell hp) hx.size hn')
  have HSZ0 := Lib.hid (fun (left : Int) hl w => sz_ctl A0 n0 c0 x0_0 B0 m0 d0 x0_1 left w (by omega) (by omega) hl)
  simp only [ctlV] at HSZ0 HTO0
  clear hi0 hj0
  have hma1 := Nat.le_trans ha1.2.2.1 ha1.2.2.2
  have hmb1 := Nat.le_trans hy1.2.2.1 hy1.2.2.2
  unfold maxLen at hma1 hmb1
  obtain ⟨hi1, hw1, -, -⟩ := ha1
  obtain ⟨hj1, hv1, -, -⟩ := hy1
  have HTO1 := Lib.hid (fun (w : World) (hx : Below W.heap.size W w) hn hn' => to_ctl A1 n1 c1 W.heap.size zs1 x1_0 B1 m1 d1 W.heap.size ys1 x1_1 w (hi1.keep fun _ hp => hx.cell hp) hx.size hn (hj1.keep fun _ hp => hx.cell hp) hx.size hn')
  have HSZ1 := Lib.hid (fun (left : Int) hl w => sz_ctl A1 n1 c1 x1_0 B1 m1 d1 x1_1 left w (by omega) (by omega) hl)
  simp only [ctlV] at HSZ1 HTO1
  clear hi1 hj1
  obtain ⟨r0, hr⟩ : ∃ r0, eqC zs0 x0_0 ys0 x0_1 zs1 x1_0 ys1 x1_1 = r0 := ⟨_, rfl⟩
  have HR := Lib.hid hr
  clear hr
  obtain ⟨wB, hwB⟩ : ∃ wB, wB = (W.alloc (.cells #[.slice A0 n0 c0, .int .i64 x0_0, .slice B0 m0 d0, .int .i64 x0_1] 24)).alloc (.cells #[.slice A1 n1 c1, .int .i64 x1_0, .slice B1 m1 d1, .int .i64 x1_1] 24) := ⟨_, rfl⟩
  obtain ⟨hk, hx, hsz, acc⟩ := two_blocks hwB
  have HX0 := Lib.hid hk
  have HX1 := Lib.hid hx
  have l0 : W.heap.size < wB.heap.size := by omega
  have l1 : W.heap.size + 1 < wB.heap.size := by omega
  have hmx : Try.prog.follows .mixedOrders = true := by kernel_rfl
  clear hk hx hsz
  obtain ⟨k0, k1, k2, k3⟩ := cells4 HX0.out
  go_enter Try.func3, Try.ntmps3
  go_wp2_with fail
  rw [← hwB]
  clear hwB
  refine (HSZ0.out _ (by omega) _).mono ?_
  rintro e w1 ⟨rfl, hb⟩
  by_cases hz0 : (n0 : Int) + (m0 : Int) ≤ 1048576
  rotate_left
  · rw [if_neg hz0]
    have acc2 := acc.trans (hb.mono acc.size)
    clear hb
    go_wp2
    go_ret
    exact ⟨rfl, acc2⟩
  rw [if_pos hz0]
  have hz1 : ¬ ((1048576 : Int) - (n0 : Int) - (m0 : Int)) < 0 := by omega
  have hn0 : n0 ≤ 1048576 := by omega
  have hm0 : m0 ≤ 1048576 := by omega
  replace HX0 := Lib.hid ((hb.block _ l0).trans HX0.out)
  replace l0 := lt_of_block HX0.out
  replace HX1 := Lib.hid ((hb.block _ l1).trans HX1.out)
  replace l1 := lt_of_block HX1.out
  replace acc := acc.trans (hb.mono acc.size)
  clear hb k0 k1 k2 k3
  obtain ⟨k0, k1, k2, k3⟩ := cells4 HX1.out
  go_wp2_with fail
  refine (HSZ1.out _ (by omega) _).mono ?_
  rintro e w2 ⟨rfl, hb⟩
  by_cases hz2 : (n1 : Int) + (m1 : Int) ≤ 1048576 - (n0 : Int) - (m0 : Int)
  rotate_left
  · rw [if_neg hz2]
    have acc2 := acc.trans (hb.mono acc.size)
    clear hb
    go_wp2
    go_ret
    exact ⟨rfl, acc2⟩
  rw [if_pos hz2]
  have hz3 : ¬ ((1048576 : Int) - (n0 : Int) - (m0 : Int) - (n1 : Int) - (m1 : Int)) < 0 := by omega
  have hn1 : n1 ≤ 1048576 := by omega
  have hm1 : m1 ≤ 1048576 := by omega
  replace HX0 := Lib.hid ((hb.block _ l0).trans HX0.out)
  replace l0 := lt_of_block HX0.out
  replace HX1 := Lib.hid ((hb.block _ l1).trans HX1.out)
  replace l1 := lt_of_block HX1.out
  replace acc := acc.trans (hb.mono acc.size)
  clear hb k0 k1 k2 k3
  go_wp2
  refine wp_region_held_drew (S := fun W' => W'.heap[W.heap.size]? = some (.cells #[.slice A0 n0 c0, .int .i64 x0_0, .slice B0 m0 d0, .int .i64 x0_1] 24 (0, 0)) ∧ W'.heap[W.heap.size + 1]? = some (.cells #[.slice A1 n1 c1, .int .i64 x1_0, .slice B1 m1 d1, .int .i64 x1_1] 24 (0, 0))) hmx ⟨HX0.out, HX1.out⟩ (fun hH => ?_)
  refine wpAnyH_take (i := 0) (v := .agg #[.slice A0 n0 c0, .int .i64 x0_0, .slice B0 m0 d0, .int .i64 x0_1]) rfl (by kernel_rfl) (by kernel_rfl) (by kernel_rfl) (fun _ _ _ h => h) (Or.inl ⟨by rfl, by intro W' hSw; have hlt := lt_of_block hSw.1; obtain ⟨k0, k1, k2, k3⟩ := cells4 hSw.1; go_simp⟩) hH ?_
  try simp only [Act.put, List.setIfInBounds_toArray, List.set_cons_zero, List.set_cons_succ]
  refine wpAnyH_take (i := 2) (v := .agg #[.slice A1 n1 c1, .int .i64 x1_0, .slice B1 m1 d1, .int .i64 x1_1]) rfl (by kernel_rfl) (by kernel_rfl) (by kernel_rfl) (fun _ _ _ h => h) (Or.inl ⟨by rfl, by intro W' hSw; have hlt := lt_of_block hSw.2; obtain ⟨k0, k1, k2, k3⟩ := cells4 hSw.2; go_simp⟩) hH ?_
  try simp only [Act.put, List.setIfInBounds_toArray, List.set_cons_zero, List.set_cons_succ]
  have acD : Below W.heap.size W w2.drew := ⟨acc.os, acc.tape, acc.output, acc.size, acc.block⟩
  have hdd : Below w2.heap.size w2 w2.drew := ⟨rfl, rfl, rfl, Nat.le_refl _, fun _ _ => rfl⟩
  refine wpAnyH_ready (rs := [1]) (by decide +kernel) (by simp) (AllReadyH.cons rfl (fun K hK => ?_) AllReadyH.nil)
  go_simp
  refine (HTO0.out _ acD hn0 hm0).mono ?_
  rintro e w3 ⟨E0, e0, F0, f0, rfl, ho1, ho2, -, hb⟩
  have hb' := hdd.trans hb
  clear acD
  replace HX0 := Lib.hid ((hb'.block _ l0).trans HX0.out)
  replace l0 := lt_of_block HX0.out
  replace HX1 := Lib.hid ((hb'.block _ l1).trans HX1.out)
  replace l1 := lt_of_block HX1.out
  replace acc := acc.trans (hb'.mono acc.size)
  have s1 := Ow.new ho1
  have s2 := Ow.new ho2
  clear ho1 ho2 hb hb' hdd
  go_wp2_with fail
  refine hK.out _ _ ⟨HX0.out, HX1.out⟩ (fun _ => ?_)
  clear hK K
  try simp only [Act.put, List.setIfInBounds_toArray, List.set_cons_zero, List.set_cons_succ]
  refine wpAnyH_ready (rs := [3]) (by decide +kernel) (by simp) (AllReadyH.cons rfl (fun K hK => ?_) AllReadyH.nil)
  go_simp
  refine (HTO1.out _ acc hn1 hm1).mono ?_
  rintro e w4 ⟨E1, e1, F1, f1, rfl, ho1, ho2, -, hb⟩
  replace HX0 := Lib.hid ((hb.block _ l0).trans HX0.out)
  replace l0 := lt_of_block HX0.out
  replace HX1 := Lib.hid ((hb.block _ l1).trans HX1.out)
  replace l1 := lt_of_block HX1.out
  replace acc := acc.trans (hb.mono acc.size)
  replace s1 := s1.below hb
  replace s2 := s2.below hb
  have s3 := Ow.new ho1
  have s4 := Ow.new ho2
  clear ho1 ho2 hb
  have hSP := sp_EqualControls _ n0 _ zs0 x0_0 _ m0 _ ys0 x0_1 _ n1 _ zs1 x1_0 _ m1 _ ys1 x1_1 _ (s1.sl (by omega) hw0) hn0 (s2.sl (by omega) hv0) hm0 (s3.sl (by omega) hw1) hn1 (s4.sl (by omega) hv1) hm1 r0 HR.out
  simp only [ctlV] at hSP
  go_wp2_with fail
  refine hK.out _ _ ⟨HX0.out, HX1.out⟩ (fun _ => ?_)
  clear hK K
  try simp only [Act.put, List.setIfInBounds_toArray, List.set_cons_zero, List.set_cons_succ]
  refine wpAnyH_ready (rs := [4]) (by decide +kernel) (by simp) (AllReadyH.cons rfl (fun K hK => ?_) AllReadyH.nil)
  go_simp
  refine hSP.mono ?_
  rintro e w5 ⟨rfl, hb⟩
  clear hSP s1 s2 s3 s4
  replace HX0 := Lib.hid ((hb.block _ l0).trans HX0.out)
  replace l0 := lt_of_block HX0.out
  replace HX1 := Lib.hid ((hb.block _ l1).trans HX1.out)
  replace l1 := lt_of_block HX1.out
  replace acc := acc.trans (hb.mono acc.size)
  clear hb
  go_wp2_with fail
  refine hK.out _ _ ⟨HX0.out, HX1.out⟩ (fun _ => ?_)
  clear hK K
  try simp only [Act.put, List.setIfInBounds_toArray, List.set_cons_zero, List.set_cons_succ]
  refine wpAnyH_ready (rs := [5]) (by decide +kernel) (by simp) (AllReadyH.cons rfl (fun K hK => ?_) AllReadyH.nil)
  go_simp
  refine hK.out _ _ ⟨HX0.out, HX1.out⟩ (fun _ => ?_)
  clear hK K hH
  try simp only [Act.put, List.setIfInBounds_toArray, List.set_cons_zero, List.set_cons_succ]
  refine wpAnyH_done (by decide +kernel) ?_ _
  have hq := HX0.out
  obtain ⟨k0, k1, k2, k3⟩ := cells4 hq
  clear hq
  go_wp2_with fail
  refine (HTO0.out _ acc hn0 hm0).mono ?_
  rintro e u0 ⟨G0, g0, H0, kc0, rfl, ho1, ho2, -, hb⟩
  replace HX0 := Lib.hid ((hb.block _ l0).trans HX0.out)
  replace l0 := lt_of_block HX0.out
  replace HX1 := Lib.hid ((hb.block _ l1).trans HX1.out)
  replace l1 := lt_of_block HX1.out
  replace acc := acc.trans (hb.mono acc.size)
  have t1 := Ow.new ho1
  have t2 := Ow.new ho2
  clear ho1 ho2 hb k0 k1 k2 k3
  obtain ⟨v0, hv0'⟩ : ∃ v0, v0 = u0.alloc (.cells #[.slice G0 n0 g0, .int .i64 x0_0, .slice H0 m0 kc0, .int .i64 x0_1] 27) := ⟨_, rfl⟩
  obtain ⟨hy0, hs0, hb⟩ := one_block hv0'
  replace HX0 := Lib.hid ((hb.block _ l0).trans HX0.out)
  replace l0 := lt_of_block HX0.out
  replace HX1 := Lib.hid ((hb.block _ l1).trans HX1.out)
  replace l1 := lt_of_block HX1.out
  replace acc := acc.trans (hb.mono acc.size)
  replace t1 := t1.below hb
  replace t2 := t2.below hb
  have HY0 := Lib.hid hy0
  have ly0 := lt_of_block HY0.out
  clear hb hy0 hs0
  have hq := HX1.out
  rw [hv0'] at hq
  obtain ⟨k0, k1, k2, k3⟩ := cells4 hq
  clear hq
  go_wp2_with fail
  rw [← hv0']
  clear hv0'
  refine (HTO1.out _ acc hn1 hm1).mono ?_
  rintro e u1 ⟨G1, g1, H1, kc1, rfl, ho1, ho2, -, hb⟩
  replace HX0 := Lib.hid ((hb.block _ l0).trans HX0.out)
  replace l0 := lt_of_block HX0.out
  replace HX1 := Lib.hid ((hb.block _ l1).trans HX1.out)
  replace l1 := lt_of_block HX1.out
  replace HY0 := Lib.hid ((hb.block _ ly0).trans HY0.out)
  replace ly0 := lt_of_block HY0.out
  replace acc := acc.trans (hb.mono acc.size)
  replace t1 := t1.below hb
  replace t2 := t2.below hb
  have t3 := Ow.new ho1
  have t4 := Ow.new ho2
  clear ho1 ho2 hb k0 k1 k2 k3
  obtain ⟨v1, hv1'⟩ : ∃ v1, v1 = u1.alloc (.cells #[.slice G1 n1 g1, .int .i64 x1_0, .slice H1 m1 kc1, .int .i64 x1_1] 27) := ⟨_, rfl⟩
  obtain ⟨hy1, hs1, hb⟩ := one_block hv1'
  replace HX0 := Lib.hid ((hb.block _ l0).trans HX0.out)
  replace l0 := lt_of_block HX0.out
  replace HX1 := Lib.hid ((hb.block _ l1).trans HX1.out)
  replace l1 := lt_of_block HX1.out
  replace HY0 := Lib.hid ((hb.block _ ly0).trans HY0.out)
  replace ly0 := lt_of_block HY0.out
  replace acc := acc.trans (hb.mono acc.size)
  replace t1 := t1.below hb
  replace t2 := t2.below hb
  replace t3 := t3.below hb
  replace t4 := t4.below hb
  have HY1 := Lib.hid hy1
  have ly1 := lt_of_block HY1.out
  clear hb hy1 hs1
  have hIM := im_EqualControls _ n0 _ zs0 x0_0 _ m0 _ ys0 x0_1 _ n1 _ zs1 x1_0 _ m1 _ ys1 x1_1 _ (t1.sl (by omega) hw0) hn0 (t2.sl (by omega) hv0) hm0 (t3.sl (by omega) hw1) hn1 (t4.sl (by omega) hv1) hm1 r0 HR.out
  simp only [ctlV] at hIM
  have HIM := Lib.hid hIM
  clear hIM
  have hq := HY0.out
  rw [hv1'] at hq
  obtain ⟨k0, k1, k2, k3⟩ := cells4 hq
  clear hq
  have hq := HY1.out
  rw [hv1'] at hq
  obtain ⟨q0, q1, q2, q3⟩ := cells4 hq
  clear hq
  go_wp2_with fail
  rw [← hv1']
  clear hv1'
  refine HIM.out.mono ?_
  rintro e w9 ⟨rfl, hb⟩
  replace HX0 := Lib.hid ((hb.block _ l0).trans HX0.out)
  replace l0 := lt_of_block HX0.out
  replace HX1 := Lib.hid ((hb.block _ l1).trans HX1.out)
  replace l1 := lt_of_block HX1.out
  replace HY0 := Lib.hid ((hb.block _ ly0).trans HY0.out)
  replace ly0 := lt_of_block HY0.out
  replace HY1 := Lib.hid ((hb.block _ ly1).trans HY1.out)
  replace ly1 := lt_of_block HY1.out
  replace acc := acc.trans (hb.mono acc.size)
  replace t1 := t1.below hb
  replace t2 := t2.below hb
  replace t3 := t3.below hb
  replace t4 := t4.below hb
  clear hb HIM k0 k1 k2 k3 q0 q1 q2 q3
  go_wp2
  refine wp_region_held_drew (S := fun W' => W'.heap[W.heap.size]? = some (.cells #[.slice A0 n0 c0, .int .i64 x0_0, .slice B0 m0 d0, .int .i64 x0_1] 24 (0, 0)) ∧ W'.heap[u0.heap.size]? = some (.cells #[.slice G0 n0 g0, .int .i64 x0_0, .slice H0 m0 kc0, .int .i64 x0_1] 27 (0, 0))) hmx ⟨HX0.out, HY0.out⟩ (fun hH => ?_)
  refine wpAnyH_take (i := 0) (v := .agg #[.slice G0 n0 g0, .int .i64 x0_0, .slice H0 m0 kc0, .int .i64 x0_1]) rfl (by kernel_rfl) (by kernel_rfl) (by kernel_rfl) (fun _ _ _ h => h) (Or.inl ⟨by rfl, by intro W' hSw; have hlt := lt_of_block hSw.2; obtain ⟨k0, k1, k2, k3⟩ := cells4 hSw.2; go_simp⟩) hH ?_
  try simp only [Act.put, List.setIfInBounds_toArray, List.set_cons_zero, List.set_cons_succ]
  refine wpAnyH_take (i := 1) (v := .agg #[.slice A0 n0 c0, .int .i64 x0_0, .slice B0 m0 d0, .int .i64 x0_1]) rfl (by kernel_rfl) (by kernel_rfl) (by kernel_rfl) (fun _ _ _ h => h) (Or.inl ⟨by rfl, by intro W' hSw; have hlt := lt_of_block hSw.1; obtain ⟨k0, k1, k2, k3⟩ := cells4 hSw.1; go_simp⟩) hH ?_
  try simp only [Act.put, List.setIfInBounds_toArray, List.set_cons_zero, List.set_cons_succ]
  have acD : Below W.heap.size W w9.drew := ⟨acc.os, acc.tape, acc.output, acc.size, acc.block⟩
  have hdd : Below w9.heap.size w9 w9.drew := ⟨rfl, rfl, rfl, Nat.le_refl _, fun _ _ => rfl⟩
  refine wpAnyH_ready (rs := [2]) (by decide +kernel) (by simp) (AllReadyH.cons rfl (fun K hK => ?_) AllReadyH.nil)
  go_simp
  refine (HTO0.out _ acD hn0 hm0).mono ?_
  rintro e p0 ⟨J1, j1, J2, j2, rfl, ho1, ho2, -, hb⟩
  have hb' := hdd.trans hb
  clear acD
  replace HX0 := Lib.hid ((hb'.block _ l0).trans HX0.out)
  replace l0 := lt_of_block HX0.out
  replace HX1 := Lib.hid ((hb'.block _ l1).trans HX1.out)
  replace l1 := lt_of_block HX1.out
  replace HY0 := Lib.hid ((hb'.block _ ly0).trans HY0.out)
  replace ly0 := lt_of_block HY0.out
  replace HY1 := Lib.hid ((hb'.block _ ly1).trans HY1.out)
  replace ly1 := lt_of_block HY1.out
  replace acc := acc.trans (hb'.mono acc.size)
  replace t1 := t1.below hb'
  replace t2 := t2.below hb'
  replace t3 := t3.below hb'
  replace t4 := t4.below hb'
  have o1 := Ow.new ho1
  have o2 := Ow.new ho2
  have hEQ := same_ctl x0_0 x0_1 G0 n0 g0 J1 n0 j1 zs0 H0 m0 kc0 J2 m0 j2 ys0 p0 t1.ints o1.ints hn0 hn0 t2.ints o2.ints hm0 hm0
  simp only [ctlV] at hEQ
  clear ho1 ho2 hb hb' hdd
  go_wp2_with fail
  refine hK.out _ _ ⟨HX0.out, HY0.out⟩ (fun _ => ?_)
  clear hK K
  try simp only [Act.put, List.setIfInBounds_toArray, List.set_cons_zero, List.set_cons_succ]
  refine wpAnyH_ready (rs := [3]) (by decide +kernel) (by simp) (AllReadyH.cons rfl (fun K hK => ?_) AllReadyH.nil)
  go_simp
  refine hEQ.mono ?_
  rintro e z0 ⟨rfl, hb⟩
  clear hEQ o1 o2
  replace HX0 := Lib.hid ((hb.block _ l0).trans HX0.out)
  replace l0 := lt_of_block HX0.out
  replace HX1 := Lib.hid ((hb.block _ l1).trans HX1.out)
  replace l1 := lt_of_block HX1.out
  replace HY0 := Lib.hid ((hb.block _ ly0).trans HY0.out)
  replace ly0 := lt_of_block HY0.out
  replace HY1 := Lib.hid ((hb.block _ ly1).trans HY1.out)
  replace ly1 := lt_of_block HY1.out
  replace acc := acc.trans (hb.mono acc.size)
  replace t1 := t1.below hb
  replace t2 := t2.below hb
  replace t3 := t3.below hb
  replace t4 := t4.below hb
  clear hb
  go_wp2_with fail
  refine hK.out _ _ ⟨HX0.out, HY0.out⟩ (fun _ => ?_)
  clear hK K
  try simp only [Act.put, List.setIfInBounds_toArray, List.set_cons_zero, List.set_cons_succ]
  refine wpAnyH_ready (rs := [4]) (by decide +kernel) (by simp) (AllReadyH.cons rfl (fun K hK => ?_) AllReadyH.nil)
  go_simp
  refine hK.out _ _ ⟨HX0.out, HY0.out⟩ (fun _ => ?_)
  clear hK K hH
  try simp only [Act.put, List.setIfInBounds_toArray, List.set_cons_zero, List.set_cons_succ]
  refine wpAnyH_done (by decide +kernel) ?_ _
  go_wp2
  refine wp_region_held_drew (S := fun W' => W'.heap[W.heap.size + 1]? = some (.cells #[.slice A1 n1 c1, .int .i64 x1_0, .slice B1 m1 d1, .int .i64 x1_1] 24 (0, 0)) ∧ W'.heap[u1.heap.size]? = some (.cells #[.slice G1 n1 g1, .int .i64 x1_0, .slice H1 m1 kc1, .int .i64 x1_1] 27 (0, 0))) hmx ⟨HX1.out, HY1.out⟩ (fun hH => ?_)
  refine wpAnyH_take (i := 0) (v := .agg #[.slice G1 n1 g1, .int .i64 x1_0, .slice H1 m1 kc1, .int .i64 x1_1]) rfl (by kernel_rfl) (by kernel_rfl) (by kernel_rfl) (fun _ _ _ h => h) (Or.inl ⟨by rfl, by intro W' hSw; have hlt := lt_of_block hSw.2; obtain ⟨k0, k1, k2, k3⟩ := cells4 hSw.2; go_simp⟩) hH ?_
  try simp only [Act.put, List.setIfInBounds_toArray, List.set_cons_zero, List.set_cons_succ]
  refine wpAnyH_take (i := 1) (v := .agg #[.slice A1 n1 c1, .int .i64 x1_0, .slice B1 m1 d1, .int .i64 x1_1]) rfl (by kernel_rfl) (by kernel_rfl) (by kernel_rfl) (fun _ _ _ h => h) (Or.inl ⟨by rfl, by intro W' hSw; have hlt := lt_of_block hSw.1; obtain ⟨k0, k1, k2, k3⟩ := cells4 hSw.1; go_simp⟩) hH ?_
  try simp only [Act.put, List.setIfInBounds_toArray, List.set_cons_zero, List.set_cons_succ]
  have acD : Below W.heap.size W z0.drew := ⟨acc.os, acc.tape, acc.output, acc.size, acc.block⟩
  have hdd : Below z0.heap.size z0 z0.drew := ⟨rfl, rfl, rfl, Nat.le_refl _, fun _ _ => rfl⟩
  refine wpAnyH_ready (rs := [2]) (by decide +kernel) (by simp) (AllReadyH.cons rfl (fun K hK => ?_) AllReadyH.nil)
  go_simp
  refine (HTO1.out _ acD hn1 hm1).mono ?_
  rintro e p1 ⟨J1, j1, J2, j2, rfl, ho1, ho2, -, hb⟩
  have hb' := hdd.trans hb
  clear acD
  replace HX0 := Lib.hid ((hb'.block _ l0).trans HX0.out)
  replace l0 := lt_of_block HX0.out
  replace HX1 := Lib.hid ((hb'.block _ l1).trans HX1.out)
  replace l1 := lt_of_block HX1.out
  replace HY0 := Lib.hid ((hb'.block _ ly0).trans HY0.out)
  replace ly0 := lt_of_block HY0.out
  replace HY1 := Lib.hid ((hb'.block _ ly1).trans HY1.out)
  replace ly1 := lt_of_block HY1.out
  replace acc := acc.trans (hb'.mono acc.size)
  replace t1 := t1.below hb'
  replace t2 := t2.below hb'
  replace t3 := t3.below hb'
  replace t4 := t4.below hb'
  have o1 := Ow.new ho1
  have o2 := Ow.new ho2
  have hEQ := same_ctl x1_0 x1_1 G1 n1 g1 J1 n1 j1 zs1 H1 m1 kc1 J2 m1 j2 ys1 p1 t3.ints o1.ints hn1 hn1 t4.ints o2.ints hm1 hm1
  simp only [ctlV] at hEQ
  clear ho1 ho2 hb hb' hdd
  go_wp2_with fail
  refine hK.out _ _ ⟨HX1.out, HY1.out⟩ (fun _ => ?_)
  clear hK K
  try simp only [Act.put, List.setIfInBounds_toArray, List.set_cons_zero, List.set_cons_succ]
  refine wpAnyH_ready (rs := [3]) (by decide +kernel) (by simp) (AllReadyH.cons rfl (fun K hK => ?_) AllReadyH.nil)
  go_simp
  refine hEQ.mono ?_
  rintro e z1 ⟨rfl, hb⟩
  clear hEQ o1 o2
  replace HX0 := Lib.hid ((hb.block _ l0).trans HX0.out)
  replace l0 := lt_of_block HX0.out
  replace HX1 := Lib.hid ((hb.block _ l1).trans HX1.out)
  replace l1 := lt_of_block HX1.out
  replace HY0 := Lib.hid ((hb.block _ ly0).trans HY0.out)
  replace ly0 := lt_of_block HY0.out
  replace HY1 := Lib.hid ((hb.block _ ly1).trans HY1.out)
  replace ly1 := lt_of_block HY1.out
  replace acc := acc.trans (hb.mono acc.size)
  replace t1 := t1.below hb
  replace t2 := t2.below hb
  replace t3 := t3.below hb
  replace t4 := t4.below hb
  clear hb
  go_wp2_with fail
  refine hK.out _ _ ⟨HX1.out, HY1.out⟩ (fun _ => ?_)
  clear hK K
  try simp only [Act.put, List.setIfInBounds_toArray, List.set_cons_zero, List.set_cons_succ]
  refine wpAnyH_ready (rs := [4]) (by decide +kernel) (by simp) (AllReadyH.cons rfl (fun K hK => ?_) AllReadyH.nil)
  go_simp
  refine hK.out _ _ ⟨HX1.out, HY1.out⟩ (fun _ => ?_)
  clear hK K hH
  try simp only [Act.put, List.setIfInBounds_toArray, List.set_cons_zero, List.set_cons_succ]
  refine wpAnyH_done (by decide +kernel) ?_ _
  go_wp2
  go_ret
  exact ⟨rfl, acc⟩
end Go.Proofs.Ytdhhkhabheilkaa
