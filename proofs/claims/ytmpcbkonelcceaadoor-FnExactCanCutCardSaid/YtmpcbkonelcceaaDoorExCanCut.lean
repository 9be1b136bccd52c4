/- The walk of 'FnExactCanCut' (written by gencl.py). -/
import Derived.Test.YtmpcbkonelcceaaDoorCutI
import Derived.Test.YtmpcbkonelcceaaDoorCut
import Derived.Test.YtmpcbkonelcceaaDoorBndlD
import Derived.Deep.RegionHeld3
namespace Go.Proofs.YtmpcbkonelcceaaDoor
open Go.RowKit
set_option linter.unusedVariables false
set_option linter.unusedSimpArgs false

set_option maxHeartbeats 4000000 in
set_option maxRecDepth 100000 in
theorem walk_FnExactCanCut (W : World) (A0 : Option Addr) (n0 c0 : Nat) (zs0 : List Pth) (ha0 : PthsAt W W.heap.size A0 n0 zs0 ∧ (∀ z ∈ zs0, z.wf) ∧ n0 ≤ c0 ∧ c0 ≤ maxLen) (A1 : Option Addr) (n1 c1 : Nat) (zs1 : List Int) (B1 : Option Addr) (m1 d1 : Nat) (ys1 : List Int) (x0 x1 : Int) (ha1 : IntsAt .i64 W W.heap.size A1 n1 zs1 ∧ (∀ z ∈ zs1, (Lit.int .i64 z).wf = true) ∧ n1 ≤ c1 ∧ c1 ≤ maxLen) (ha2 : IntsAt .i64 W W.heap.size B1 m1 ys1 ∧ (∀ z ∈ ys1, (Lit.int .i64 z).wf = true) ∧ m1 ≤ d1 ∧ d1 ≤ maxLen) (wx0 : (Lit.int .i64 x0).wf = true) (wx1 : (Lit.int .i64 x1).wf = true) (hv0 : Brus W) (hv1 : Clrs W) (hv2 : Sirs W) :
    Calls Tryd.prog 5 #[.slice A0 n0 c0, .agg #[.slice A1 n1 c1, .int .i64 x0, .slice B1 m1 d1, .int .i64 x1]] W fun e w' => e = .returned (.bool true) ∧ Below W.heap.size W w' := by
  have hm0 := Nat.le_trans ha0.2.2.1 ha0.2.2.2
  have hm1 := Nat.le_trans ha1.2.2.1 ha1.2.2.2
  have hm2 := Nat.le_trans ha2.2.2.1 ha2.2.2.2
  unfold maxLen at hm0 hm1 hm2
  obtain ⟨hi0, hw0, -, -⟩ := ha0
  obtain ⟨hi1, hw1, -, -⟩ := ha1
  obtain ⟨hi2, hw2, -, -⟩ := ha2
  obtain ⟨r0, hr⟩ : ∃ r0, canC zs0 ⟨zs1, x0, ys1, x1⟩ = r0 := ⟨_, rfl⟩
  have HR := Lib.hid hr
  clear hr
  have HV0 := Lib.hid hv0
  have HV1 := Lib.hid hv1
  clear hv0 hv1
  have HV2 := Lib.hid hv2
  clear hv2
  have HL1 := Lib.hid hi1.1
  have HL2 := Lib.hid hi2.1
  have b0 := i64_of_wf wx0
  have b1 := i64_of_wf wx1
  obtain ⟨wB, hwB⟩ : ∃ wB, wB = W.alloc (.cells #[.slice A1 n1 c1, .int .i64 x0, .slice B1 m1 d1, .int .i64 x1] 25) := ⟨_, rfl⟩
  obtain ⟨hbx, hszb, acc⟩ := one_block hwB
  have ltb : W.heap.size < wB.heap.size := by omega
  have HBX := Lib.hid hbx
  have hmx : Tryd.prog.follows .mixedOrders = true := by kernel_rfl
  clear hbx hszb
  have HSZ := Lib.hid (fun (left : Int) hl w => sz_ctl A1 n1 c1 x0 B1 m1 d1 x1 left w (by omega) (by omega) hl)
  have HTO := Lib.hid (fun (w : World) (hx : Below W.heap.size W w) hn hn' => to_ctl A1 n1 c1 W.heap.size zs1 x0 B1 m1 d1 W.heap.size ys1 x1 w (hi1.keep fun _ hp => hx.cell hp) hx.size hn (hi2.keep fun _ hp => hx.cell hp) hx.size hn')
  simp only [ctlV] at HSZ HTO
  go_enter Tryd.func5, Tryd.ntmps5
  go_wp2_with fail
  rw [← hwB]
  clear hwB
  refine (sz_pth _ n0 _ 1048576 _ (by omega) (by omega)).mono ?_
  rintro e w' ⟨rfl, rfl⟩
  by_cases hz0 : (n0 : Int) ≤ 1048576
  rotate_left
  · rw [if_neg hz0]
    go_wp2
    go_ret
    exact ⟨rfl, acc⟩
  rw [if_pos hz0]
  have hb0 : n0 ≤ 1048576 := by omega
  have hz1 : ¬ ((1048576 : Int) - (n0 : Int)) < 0 := by omega
  obtain ⟨k0, k1, k2, k3⟩ := cells4 HBX.out
  go_wp2_with fail
  refine (HSZ.out _ (by omega) _).mono ?_
  rintro e w1 ⟨rfl, hb⟩
  by_cases hz2 : (n1 : Int) + (m1 : Int) ≤ 1048576 - (n0 : Int)
  rotate_left
  · rw [if_neg hz2]
    go_wp2
    go_ret
    exact ⟨rfl, acc.trans (hb.mono acc.size)⟩
  rw [if_pos hz2]
  have hb1 : n1 ≤ 1048576 := by omega
  have hb2 : m1 ≤ 1048576 := by omega
  have hz3 : ¬ ((1048576 : Int) - (n0 : Int) - (n1 : Int) - (m1 : Int)) < 0 := by omega
  have HX1 := Lib.hid ((hb.block _ ltb).trans HBX.out)
  replace acc := acc.trans (hb.mono acc.size)
  have lt1 := lt_of_block HX1.out
  clear hb k0 k1 k2 k3
  go_wp2
  refine wp_region_held_drew (S := fun W' => W'.heap[W.heap.size]? = some (.cells #[.slice A1 n1 c1, .int .i64 x0, .slice B1 m1 d1, .int .i64 x1] 25 (0, 0))) hmx HX1.out (fun hH => ?_)
  refine wpAnyH_take (i := 0) (v := .slice A0 n0 c0) rfl (by kernel_rfl) (by kernel_rfl) (by kernel_rfl) (fun _ _ _ h => h) (Or.inl ⟨by rfl, by intro W' hSw; go_simp⟩) hH ?_
  try simp only [Act.put, List.setIfInBounds_toArray, List.set_cons_zero, List.set_cons_succ]
  refine wpAnyH_take (i := 2) (v := .agg #[.slice A1 n1 c1, .int .i64 x0, .slice B1 m1 d1, .int .i64 x1]) rfl (by kernel_rfl) (by kernel_rfl) (by kernel_rfl) (fun _ _ _ h => h) (Or.inl ⟨by rfl, by intro W' hSw; have hlt := lt_of_block hSw; obtain ⟨k0, k1, k2, k3⟩ := cells4 hSw; go_simp⟩) hH ?_
  try simp only [Act.put, List.setIfInBounds_toArray, List.set_cons_zero, List.set_cons_succ]
  refine wpAnyH_ready (rs := [1]) (by decide +kernel) (by simp) (AllReadyH.cons rfl (fun K hK => ?_) AllReadyH.nil)
  have acD : Below W.heap.size W w1.drew := ⟨acc.os, acc.tape, acc.output, acc.size, acc.block⟩
  go_simp
  refine (to_pth A0 n0 c0 W.heap.size zs0 _ (hi0.keep fun _ hp => acD.cell hp) acD.size (by omega)).mono ?_
  rintro e w2 ⟨rfl, ho, hb⟩
  have hX2 := (hb.block _ lt1).trans HX1.out
  replace acc := acD.trans (hb.mono acD.size)
  have t1 := OwP.new ho
  have lt2 := lt_of_block hX2
  clear ho hb acD
  go_wp2_with fail
  refine hK.out _ _ hX2 (fun _ => ?_)
  clear hK K
  try simp only [Act.put, List.setIfInBounds_toArray, List.set_cons_zero, List.set_cons_succ]
  refine wpAnyH_ready (rs := [3]) (by decide +kernel) (by simp) (AllReadyH.cons rfl (fun K hK => ?_) AllReadyH.nil)
  go_simp
  refine (HTO.out _ acc hb1 hb2).mono ?_
  rintro e w3 ⟨E1, e1, E2, e2, rfl, ho1, ho2, -, hb⟩
  have hX3 := (hb.block _ lt2).trans hX2
  have lt3 := lt_of_block hX3
  replace acc := acc.trans (hb.mono acc.size)
  replace t1 := t1.below hb
  have s1 := Ow.new ho1
  have s2 := Ow.new ho2
  clear ho1 ho2 hb
  go_wp2_with fail
  refine hK.out _ _ hX3 (fun _ => ?_)
  clear hK K
  try simp only [Act.put, List.setIfInBounds_toArray, List.set_cons_zero, List.set_cons_succ]
  refine wpAnyH_ready (rs := [4]) (by decide +kernel) (by simp) (AllReadyH.cons rfl (fun K hK => ?_) AllReadyH.nil)
  have hSP := spec_CanCut (w := w3) (x := ⟨zs1, x0, ys1, x1⟩) ⟨t1.sl (by omega) hw0, s1.sl (by omega) hw1, hb1, s2.sl (by omega) hw2, hb2, b0, b1⟩
  rw [HR.out] at hSP
  simp only [ctlV] at hSP
  go_simp
  refine hSP.mono ?_
  rintro e w4 ⟨rfl, hb⟩
  have hX4 := (hb.block _ lt3).trans hX3
  have HX4 := Lib.hid hX4
  have lt4 := lt_of_block hX4
  replace acc := acc.trans (hb.mono acc.size)
  clear hb t1 s1 s2 hSP
  go_wp2_with fail
  refine hK.out _ _ hX4 (fun _ => ?_)
  clear hK K
  try simp only [Act.put, List.setIfInBounds_toArray, List.set_cons_zero, List.set_cons_succ]
  refine wpAnyH_ready (rs := [5]) (by decide +kernel) (by simp) (AllReadyH.cons rfl (fun K hK => ?_) AllReadyH.nil)
  go_simp
  refine hK.out _ _ hX4 (fun _ => ?_)
  clear hK K hX2 hX3 hX4 hH
  try simp only [Act.put, List.setIfInBounds_toArray, List.set_cons_zero, List.set_cons_succ]
  refine wpAnyH_done (by decide +kernel) ?_ _
  go_wp2_with fail
  refine (to_pth A0 n0 c0 W.heap.size zs0 _ (hi0.keep fun _ hp => acc.cell hp) acc.size (by omega)).mono ?_
  rintro e w5 ⟨rfl, ho, hb⟩
  have HX5 := Lib.hid ((hb.block _ lt4).trans HX4.out)
  have lt5 := lt_of_block HX5.out
  replace acc := acc.trans (hb.mono acc.size)
  have t2 := OwP.new ho
  clear ho hb
  obtain ⟨k0, k1, k2, k3⟩ := cells4 HX5.out
  go_wp2_with fail
  refine (HTO.out _ acc hb1 hb2).mono ?_
  rintro e w6 ⟨G1, g1, G2, g2, rfl, ho1, ho2, -, hb⟩
  have HX6 := Lib.hid ((hb.block _ lt5).trans HX5.out)
  have lt6 := lt_of_block HX6.out
  replace acc := acc.trans (hb.mono acc.size)
  replace t2 := t2.below hb
  have s1 := Ow.new ho1
  have s2 := Ow.new ho2
  clear ho1 ho2 hb k0 k1 k2 k3
  obtain ⟨w7, hw7⟩ : ∃ w7, w7 = w6.alloc (.cells #[.slice G1 n1 g1, .int .i64 x0, .slice G2 m1 g2, .int .i64 x1] 28) := ⟨_, rfl⟩
  obtain ⟨hy7, hs7, hb⟩ := one_block hw7
  have HX7 := Lib.hid ((hb.block _ lt6).trans HX6.out)
  have HY7 := Lib.hid hy7
  have lt7 := lt_of_block HX7.out
  have ly7 := lt_of_block HY7.out
  replace acc := acc.trans (hb.mono acc.size)
  replace t2 := t2.below hb
  replace s1 := s1.below hb
  replace s2 := s2.below hb
  have hIM := impl_CanCut (w := w7) (x := ⟨zs1, x0, ys1, x1⟩) ⟨t2.sl (by omega) hw0, s1.sl (by omega) hw1, hb1, s2.sl (by omega) hw2, hb2, b0, b1⟩ (HV0.out.below acc (Nat.le_refl _)) (HV1.out.below acc (Nat.le_refl _)) (HV2.out.below acc (Nat.le_refl _))
  rw [HR.out] at hIM
  simp only [ctlV] at hIM
  have HIM := Lib.hid hIM
  clear hb hy7 hs7 hIM
  go_wp2_with fail
  rw [← hw7]
  clear hw7
  refine HIM.out.mono ?_
  rintro e w8 ⟨rfl, hb⟩
  have HX8 := Lib.hid ((hb.block _ lt7).trans HX7.out)
  have HY8 := Lib.hid ((hb.block _ ly7).trans HY7.out)
  have lt8 := lt_of_block HX8.out
  have ly8 := lt_of_block HY8.out
  replace acc := acc.trans (hb.mono acc.size)
  replace t2 := t2.below hb
  replace s1 := s1.below hb
  replace s2 := s2.below hb
  clear hb
  go_wp2_with fail
  refine (to_pth A0 n0 c0 W.heap.size zs0 _ (hi0.keep fun _ hp => acc.cell hp) acc.size (by omega)).mono ?_
  rintro e w9 ⟨rfl, ho, hb⟩
  have HX9 := Lib.hid ((hb.block _ lt8).trans HX8.out)
  have HY9 := Lib.hid ((hb.block _ ly8).trans HY8.out)
  have lt9 := lt_of_block HX9.out
  have ly9 := lt_of_block HY9.out
  replace acc := acc.trans (hb.mono acc.size)
  replace t2 := t2.below hb
  replace s1 := s1.below hb
  replace s2 := s2.below hb
  have t3 := OwP.new ho
  clear ho hb
  go_wp2_with fail
  refine (eqs_pth _ _ _ zs0 _ _ _ _ t2.ints t3.ints (by omega) (by omega)).mono ?_
  rintro e w10 ⟨rfl, hb⟩
  have HX10 := Lib.hid ((hb.block _ lt9).trans HX9.out)
  have HY10 := Lib.hid ((hb.block _ ly9).trans HY9.out)
  have lt10 := lt_of_block HX10.out
  have ly10 := lt_of_block HY10.out
  replace acc := acc.trans (hb.mono acc.size)
  replace s1 := s1.below hb
  replace s2 := s2.below hb
  clear hb t2 t3
  go_wp2
  refine wp_region_held_drew (S := fun W' => W'.heap[W.heap.size]? = some (.cells #[.slice A1 n1 c1, .int .i64 x0, .slice B1 m1 d1, .int .i64 x1] 25 (0, 0)) ∧ W'.heap[w6.heap.size]? = some (.cells #[.slice G1 n1 g1, .int .i64 x0, .slice G2 m1 g2, .int .i64 x1] 28 (0, 0))) hmx ⟨HX10.out, HY10.out⟩ (fun hH => ?_)
  refine wpAnyH_take (i := 0) (v := .agg #[.slice G1 n1 g1, .int .i64 x0, .slice G2 m1 g2, .int .i64 x1]) rfl (by kernel_rfl) (by kernel_rfl) (by kernel_rfl) (fun _ _ _ h => h) (Or.inl ⟨by rfl, by intro W' hSw; have hlt := lt_of_block hSw.2; obtain ⟨k0, k1, k2, k3⟩ := cells4 hSw.2; go_simp⟩) hH ?_
  try simp only [Act.put, List.setIfInBounds_toArray, List.set_cons_zero, List.set_cons_succ]
  refine wpAnyH_take (i := 1) (v := .agg #[.slice A1 n1 c1, .int .i64 x0, .slice B1 m1 d1, .int .i64 x1]) rfl (by kernel_rfl) (by kernel_rfl) (by kernel_rfl) (fun _ _ _ h => h) (Or.inl ⟨by rfl, by intro W' hSw; have hlt := lt_of_block hSw.1; obtain ⟨k0, k1, k2, k3⟩ := cells4 hSw.1; go_simp⟩) hH ?_
  try simp only [Act.put, List.setIfInBounds_toArray, List.set_cons_zero, List.set_cons_succ]
  refine wpAnyH_ready (rs := [2]) (by decide +kernel) (by simp) (AllReadyH.cons rfl (fun K hK => ?_) AllReadyH.nil)
  have acD : Below W.heap.size W w10.drew := ⟨acc.os, acc.tape, acc.output, acc.size, acc.block⟩
  have hdd : Below w10.heap.size w10 w10.drew := ⟨rfl, rfl, rfl, Nat.le_refl _, fun _ _ => rfl⟩
  go_simp
  refine (HTO.out _ acD hb1 hb2).mono ?_
  rintro e w11 ⟨F1, f1, F2, f2, rfl, ho1, ho2, -, hb⟩
  have hb' := hdd.trans hb
  have hX11 := (hb'.block _ lt10).trans HX10.out
  have hY11 := (hb'.block _ ly10).trans HY10.out
  replace acc := acD.trans (hb.mono acD.size)
  replace s1 := s1.below hb'
  replace s2 := s2.below hb'
  have u1 := Ow.new ho1
  have u2 := Ow.new ho2
  have hEQ := same_ctl x0 x1 G1 n1 g1 F1 n1 f1 zs1 G2 m1 g2 F2 m1 f2 ys1 w11 s1.ints u1.ints hb1 hb1 s2.ints u2.ints hb2 hb2
  simp only [ctlV] at hEQ
  have lX := lt_of_block hX11
  have lY := lt_of_block hY11
  clear ho1 ho2 hb hb' acD
  go_wp2_with fail
  refine hK.out _ _ ⟨hX11, hY11⟩ (fun _ => ?_)
  clear hK K
  try simp only [Act.put, List.setIfInBounds_toArray, List.set_cons_zero, List.set_cons_succ]
  refine wpAnyH_ready (rs := [3]) (by decide +kernel) (by simp) (AllReadyH.cons rfl (fun K hK => ?_) AllReadyH.nil)
  go_simp
  refine hEQ.mono ?_
  rintro e w12 ⟨rfl, hb⟩
  have hX12 := (hb.block _ lX).trans hX11
  have hY12 := (hb.block _ lY).trans hY11
  replace acc := acc.trans (hb.mono acc.size)
  clear hb hEQ
  go_wp2_with fail
  refine hK.out _ _ ⟨hX12, hY12⟩ (fun _ => ?_)
  clear hK K
  try simp only [Act.put, List.setIfInBounds_toArray, List.set_cons_zero, List.set_cons_succ]
  refine wpAnyH_ready (rs := [4]) (by decide +kernel) (by simp) (AllReadyH.cons rfl (fun K hK => ?_) AllReadyH.nil)
  go_simp
  refine hK.out _ _ ⟨hX12, hY12⟩ (fun _ => ?_)
  clear hK K
  try simp only [Act.put, List.setIfInBounds_toArray, List.set_cons_zero, List.set_cons_succ]
  refine wpAnyH_done (by decide +kernel) ?_ _
  go_wp2
  go_ret
  exact ⟨rfl, acc⟩
end Go.Proofs.YtmpcbkonelcceaaDoor
