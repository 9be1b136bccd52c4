/- The walk of 'FnExactCutFor' (written by genctr.py). -/
import Derived.Test.YtmcoeafkbpeelaaDoorBndlE
import Derived.Deep.RegionHeld3
set_option linter.unusedSimpArgs false
namespace Go.Proofs.YtmcoeafkbpeelaaDoor
open Go.RowKit
set_option linter.unusedVariables false

theorem tail_thenCutFor {Q : World → Nat → Option Addr → Option Addr → Nat → Option Addr → Nat → Option Addr → Nat → Nat → Option Addr → Nat → Nat → Prop} {F : World → Nat → Option Addr → Nat → Nat → Option Addr → Nat → Nat → Prop} {G : Prop} (main : (∀ w g T E1 e1 E2 e2 S1 N1 s1 S2 N2 s2, F w g S1 N1 s1 S2 N2 s2 → Q w g T E1 e1 E2 e2 S1 N1 s1 S2 N2 s2) → G) (tail : ∀ w g T E1 e1 E2 e2 S1 N1 s1 S2 N2 s2, F w g S1 N1 s1 S2 N2 s2 → Q w g T E1 e1 E2 e2 S1 N1 s1 S2 N2 s2) : G := main tail
theorem to_pthECutFor (A : Option Addr) (n c B : Nat) (ps : List Pth) (w : World) (h : PthsAt w B A n ps) (hB : B ≤ w.heap.size) (hn : n ≤ 1048576) : Calls Tryd.prog 9 #[.slice A n c] w fun e w' => ∃ T, e = .returned (.slice T n n) ∧ w'.ownsRow w.heap.size 45 4 (.slice T n n) ps.length (pcells ps) ∧ Below w.heap.size w w' := (to_pth A n c B ps w h hB hn).mono fun e w' ⟨h1, h2, h3⟩ => ⟨_, h1, h2, h3⟩
theorem cutF_len {ps : List Pth} {x : Ctl} {id : Int} {n : Nat} (h1 : x.stage.length ≤ n) (h2 : x.next.length ≤ n) (h3 : 1 ≤ n) : (cutF ps x id).1.stage.length ≤ n ∧ (cutF ps x id).1.next.length ≤ n := by
  unfold cutF
  split
  · unfold endC
    simp only
    split
    · exact ⟨h3, Nat.zero_le _⟩
    · exact ⟨h1, h3⟩
  · exact ⟨h1, h2⟩
theorem ow_set4CutFor {w : World} {R lo hi : Nat} {v : Value} {ys : List Int} {y1 y2 y3 y4 : Value} (h : Ow .i64 3 w lo hi v ys) (hne : ∀ i, v.ownBlock = some i → i ≠ R) : Ow .i64 3 ((((w.setCell ⟨R, 0, none⟩ y1).setCell ⟨R, 1, none⟩ y2).setCell ⟨R, 2, none⟩ y3).setCell ⟨R, 3, none⟩ y4) lo hi v ys := by
  have hg := only_setCell (only_setCell (only_setCell (only_setCell (World.grownBy.refl w (some R)) 0 y1) 1 y2) 2 y3) 3 y4
  exact ⟨h.own.grown hg (fun i e => by have := hne i e; intro h; injection h; omega), h.lt, Nat.le_trans h.top hg.size⟩
set_option maxHeartbeats 16000000 in
set_option maxRecDepth 100000 in
theorem walk_FnExactCutFor (W : World) (A0 : Option Addr) (n0 c0 : Nat) (zs0 : List Pth) (ha0 : PthsAt W W.heap.size A0 n0 zs0 ∧ (∀ z ∈ zs0, z.wf) ∧ n0 ≤ c0 ∧ c0 ≤ maxLen) (A1 : Option Addr) (n1 c1 : Nat) (zs1 : List Int) (B1 : Option Addr) (m1 d1 : Nat) (ys1 : List Int) (x0 x1 : Int) (ha1 : IntsAt .i64 W W.heap.size A1 n1 zs1 ∧ (∀ z ∈ zs1, (Lit.int .i64 z).wf = true) ∧ n1 ≤ c1 ∧ c1 ≤ maxLen) (ha2 : IntsAt .i64 W W.heap.size B1 m1 ys1 ∧ (∀ z ∈ ys1, (Lit.int .i64 z).wf = true) ∧ m1 ≤ d1 ∧ d1 ≤ maxLen) (wx0 : (Lit.int .i64 x0).wf = true) (wx1 : (Lit.int .i64 x1).wf = true) (a4 : Int) (wa4 : (Lit.int .i64 a4).wf = true) (hv0 : Brus W) (hv1 : Clrs W) (hv2 : Sirs W) :
    Calls Tryd.prog 3 #[.slice A0 n0 c0, .agg #[.slice A1 n1 c1, .int .i64 x0, .slice B1 m1 d1, .int .i64 x1], .int .i64 a4] W fun e w' => e = .returned (.bool true) ∧ Below W.heap.size W w' := by
  have hm0 := Nat.le_trans ha0.2.2.1 ha0.2.2.2
  have hm1 := Nat.le_trans ha1.2.2.1 ha1.2.2.2
  have hm2 := Nat.le_trans ha2.2.2.1 ha2.2.2.2
  unfold maxLen at hm0 hm1 hm2
  obtain ⟨hi0, hw0, -, -⟩ := ha0
  obtain ⟨hi1, hw1, -, -⟩ := ha1
  obtain ⟨hi2, hw2, -, -⟩ := ha2
  obtain ⟨rs, rv, rn, rl, rb, hr⟩ : ∃ rs rv rn rl rb, cutF zs0 ⟨zs1, x0, ys1, x1⟩ a4 = (⟨rs, rv, rn, rl⟩, rb) := ⟨_, _, _, _, _, rfl⟩
  have HR := Lib.hid hr
  clear hr
  have HV0 := Lib.hid hv0
  have HV1 := Lib.hid hv1
  clear hv0 hv1
  have HV2 := Lib.hid hv2
  clear hv2
  have HL1 := Lib.hid hi1.1
  have HL2 := Lib.hid hi2.1
  have b0 := i64_of_wf wx0
  have b1 := i64_of_wf wx1
  obtain ⟨wB, hwB⟩ : ∃ wB, wB = W.alloc (.cells #[.slice A1 n1 c1, .int .i64 x0, .slice B1 m1 d1, .int .i64 x1] 25) := ⟨_, rfl⟩
  obtain ⟨hbx, hszb, acc⟩ := one_block hwB
  have ltb : W.heap.size < wB.heap.size := by omega
  have HBX := Lib.hid hbx
  have hmx : Tryd.prog.follows .mixedOrders = true := by kernel_rfl
  clear hbx hszb
  have HSZ := Lib.hid (fun (left : Int) hl w => sz_ctl A1 n1 c1 x0 B1 m1 d1 x1 left w (by omega) (by omega) hl)
  have HTO := Lib.hid (fun (w : World) (hx : Below W.heap.size W w) hn hn' => to_ctl A1 n1 c1 W.heap.size zs1 x0 B1 m1 d1 W.heap.size ys1 x1 w (hi1.keep fun _ hp => hx.cell hp) hx.size hn (hi2.keep fun _ hp => hx.cell hp) hx.size hn')
  simp only [ctlV] at HSZ HTO
  go_enter Tryd.func3, Tryd.ntmps3
  go_wp2_with fail
  rw [← hwB]
  clear hwB
  refine (sz_pth _ n0 _ 1048576 _ (by omega) (by omega)).mono ?_
  rintro e w' ⟨rfl, rfl⟩
  by_cases hz0 : (n0 : Int) ≤ 1048576
  rotate_left
  · rw [if_neg hz0]
    go_wp2
    go_ret
    exact ⟨rfl, acc⟩
  rw [if_pos hz0]
  have hb0 : n0 ≤ 1048576 := by omega
  have hz1 : ¬ ((1048576 : Int) - (n0 : Int)) < 0 := by omega
  obtain ⟨k0, k1, k2, k3⟩ := cells4 HBX.out
  go_wp2_with fail
  refine (HSZ.out _ (by omega) _).mono ?_
  rintro e w1 ⟨rfl, hb⟩
  by_cases hz2 : (n1 : Int) + (m1 : Int) ≤ 1048576 - (n0 : Int)
  rotate_left
  · rw [if_neg hz2]
    go_wp2
    go_ret
    exact ⟨rfl, acc.trans (hb.mono acc.size)⟩
  rw [if_pos hz2]
  have hb1 : n1 ≤ 1048576 := by omega
  have hb2 : m1 ≤ 1048576 := by omega
  have hz3 : ¬ ((1048576 : Int) - (n0 : Int) - (n1 : Int) - (m1 : Int)) < 0 := by omega
  have HX1 := Lib.hid ((hb.block _ ltb).trans HBX.out)
  replace acc := acc.trans (hb.mono acc.size)
  have lt1 := lt_of_block HX1.out
  clear hb k0 k1 k2 k3
  have hRB : rs.length ≤ 1048576 ∧ rn.length ≤ 1048576 := by
    have hr := HR.out
    have e1 := HL1.out
    have e2 := HL2.out
    have h := cutF_len (ps := zs0) (x := ⟨zs1, x0, ys1, x1⟩) (id := a4) (n := 1048576) (by simp only; omega) (by simp only; omega) (by omega)
    rw [hr] at h
    exact h
  have hrb1 : (rb != rb) = false := by cases rb <;> rfl
  have hrb2 : (rb == rb) = true := by cases rb <;> rfl
  obtain ⟨hR1, hR2⟩ := hRB
  have HX := HX1
  clear HX1
  go_wp2
  refine wp_region_held_drew (S := fun W' => W'.heap[W.heap.size]? = some (.cells #[.slice A1 n1 c1, .int .i64 x0, .slice B1 m1 d1, .int .i64 x1] 25 (0, 0))) hmx HX.out (fun hH => ?_)
  refine wpAnyH_take (i := 0) (v := .slice A0 n0 c0) rfl (by kernel_rfl) (by kernel_rfl) (by kernel_rfl) (fun _ _ _ h => h) (Or.inl ⟨by rfl, by intro W' hSw; go_simp⟩) hH ?_
  try simp only [Act.put, List.setIfInBounds_toArray, List.set_cons_zero, List.set_cons_succ]
  refine wpAnyH_take (i := 2) (v := .agg #[.slice A1 n1 c1, .int .i64 x0, .slice B1 m1 d1, .int .i64 x1]) rfl (by kernel_rfl) (by kernel_rfl) (by kernel_rfl) (fun _ _ _ h => h) (Or.inl ⟨by rfl, by intro W' hSw; have hlt := lt_of_block hSw; obtain ⟨k0, k1, k2, k3⟩ := cells4 hSw; go_simp⟩) hH ?_
  try simp only [Act.put, List.setIfInBounds_toArray, List.set_cons_zero, List.set_cons_succ]
  refine wpAnyH_take (i := 4) (v := .int .i64 a4) rfl (by kernel_rfl) (by kernel_rfl) (by kernel_rfl) (fun _ _ _ h => h) (Or.inl ⟨by rfl, by intro W' hSw; go_simp⟩) hH ?_
  try simp only [Act.put, List.setIfInBounds_toArray, List.set_cons_zero, List.set_cons_succ]
  obtain ⟨v0, hv0⟩ : ∃ v0, v0 = w1.drew := ⟨_, rfl⟩
  rw [← hv0]
  have hb : Below w1.heap.size w1 v0 := by rw [hv0]; exact ⟨rfl, rfl, rfl, Nat.le_refl _, fun _ _ => rfl⟩
  clear hv0
  replace HX := Lib.hid ((hb.block _ (lt_of_block HX.out)).trans HX.out)
  replace acc := acc.trans (hb.mono acc.size)
  have LF1 := Lib.hid (hb.size)
  clear hb
  refine tail_thenCutFor (Q := ?tailQM) (F := fun w g S1 N1 s1 S2 N2 s2 => w.heap[W.heap.size]? = some (.cells #[.slice A1 n1 c1, .int .i64 x0, .slice B1 m1 d1, .int .i64 x1] 25 (0, 0)) ∧ w.heap[g]? = some (.cells #[.slice S1 N1 s1, .int .i64 rv, .slice S2 N2 s2, .int .i64 rl] 28 (0, 0)) ∧ v0.heap.size ≤ g ∧ Ow .i64 3 w W.heap.size w.heap.size (.slice S1 N1 s1) rs ∧ Ow .i64 3 w W.heap.size w.heap.size (.slice S2 N2 s2) rn ∧ N1 = rs.length ∧ N2 = rn.length ∧ Below W.heap.size W w) (fun TAIL => ?_) ?_
  rotate_left
  · skip
    refine wpAnyH_ready (rs := [1, 9]) (by decide +kernel) (by simp) (AllReadyH.cons rfl (fun K hK => ?_) (AllReadyH.cons rfl (fun K hK => ?_) AllReadyH.nil))
    · skip
      go_simp
      refine (to_pthECutFor A0 n0 c0 W.heap.size zs0 _ (hi0.keep fun _ hp => acc.cell hp) acc.size (by omega)).mono ?_
      rintro e v1 ⟨T, rfl, ho, hb⟩
      replace HX := Lib.hid ((hb.block _ (lt_of_block HX.out)).trans HX.out)
      replace acc := acc.trans (hb.mono acc.size)
      have q1 := OwP.new ho
      clear ho
      have hv0k : v0.heap.size ≤ v1.heap.size := hb.size
      clear hb
      go_wp2_with fail
      refine hK.out _ _ HX.out (fun hH => ?_)
      clear hK K
      try simp only [Act.put, List.setIfInBounds_toArray, List.set_cons_zero, List.set_cons_succ]
      refine wpAnyH_ready (rs := [3, 9]) (by decide +kernel) (by simp) (AllReadyH.cons rfl (fun K hK => ?_) (AllReadyH.cons rfl (fun K hK => ?_) AllReadyH.nil))
      · skip
        go_simp
        refine (HTO.out _ acc hb1 hb2).mono ?_
        rintro e v2 ⟨E1, e1, E2, e2, rfl, ho1, ho2, -, hb⟩
        replace HX := Lib.hid ((hb.block _ (lt_of_block HX.out)).trans HX.out)
        replace q1 := q1.below hb
        replace acc := acc.trans (hb.mono acc.size)
        have q2 := Ow.new ho1
        have q3 := Ow.new ho2
        clear ho1 ho2
        replace hv0k := Nat.le_trans hv0k hb.size
        clear hb
        go_wp2_with fail
        refine hK.out _ _ HX.out (fun hH => ?_)
        clear hK K
        try simp only [Act.put, List.setIfInBounds_toArray, List.set_cons_zero, List.set_cons_succ]
        refine wpAnyH_ready (rs := [5, 9]) (by decide +kernel) (by simp) (AllReadyH.cons rfl (fun K hK => ?_) (AllReadyH.cons rfl (fun K hK => ?_) AllReadyH.nil))
        · skip
          have hSP := spec_CutFor (w := v2) (x := ⟨zs1, x0, ys1, x1⟩) ⟨q1.sl (by omega) hw0, q2.sl (by omega) hw1, hb1, q3.sl (by omega) hw2, hb2, b0, b1⟩ a4 wa4
          rw [HR.out] at hSP
          simp only [ctlV] at hSP
          go_simp
          refine hSP.mono ?_
          rintro e v3 ⟨v, rfl, ⟨S1, N1, s1, S2, N2, s2, rfl, ho1, ho2, -⟩, hb⟩
          simp only [ctlV]
          clear hSP q1 q2 q3
          have rS1l := acc.size
          have rS2l := acc.size
          have hN1 : Hid (N1 = rs.length) := Lib.hid ho1.len
          have hN2 : Hid (N2 = rn.length) := Lib.hid ho2.len
          replace HX := Lib.hid ((hb.block _ (lt_of_block HX.out)).trans HX.out)
          replace acc := acc.trans (hb.mono acc.size)
          have rS1 := Ow.new ho1
          have rS2 := Ow.new ho2
          clear ho1 ho2
          replace hv0k := Nat.le_trans hv0k hb.size
          clear hb
          go_wp2_with fail
          refine hK.out _ _ HX.out (fun hH => ?_)
          clear hK K
          try simp only [Act.put, List.setIfInBounds_toArray, List.set_cons_zero, List.set_cons_succ]
          refine wpAnyH_take (i := 6) (v := .tuple #[.agg #[.slice S1 N1 s1, .int .i64 rv, .slice S2 N2 s2, .int .i64 rl], .bool rb]) rfl (by kernel_rfl) (by kernel_rfl) (by kernel_rfl) (fun _ _ _ h => h) (Or.inl ⟨by rfl, by intro W' hSw; go_simp⟩) hH ?_
          try simp only [Act.put, List.setIfInBounds_toArray, List.set_cons_zero, List.set_cons_succ]
          refine wpAnyH_take (i := 7) (v := .agg #[.slice S1 N1 s1, .int .i64 rv, .slice S2 N2 s2, .int .i64 rl]) rfl (by kernel_rfl) (by kernel_rfl) (by kernel_rfl) (fun _ _ _ h => h) (Or.inl ⟨by rfl, by intro W' hSw; go_simp⟩) hH ?_
          try simp only [Act.put, List.setIfInBounds_toArray, List.set_cons_zero, List.set_cons_succ]
          refine wpAnyH_take (i := 8) (v := .bool rb) rfl (by kernel_rfl) (by kernel_rfl) (by kernel_rfl) (fun _ _ _ h => h) (Or.inl ⟨by rfl, by intro W' hSw; go_simp⟩) hH ?_
          try simp only [Act.put, List.setIfInBounds_toArray, List.set_cons_zero, List.set_cons_succ]
          refine wpAnyH_ready (rs := [9]) (by decide +kernel) (by simp) (AllReadyH.cons rfl (fun K hK => ?_) AllReadyH.nil)
          go_simp
          obtain ⟨g, hgd⟩ : ∃ g, g = v3.heap.size := ⟨_, rfl⟩
          obtain ⟨v4, hv⟩ : ∃ v, v = v3.alloc (.cells #[.slice none 0 0, .int .i64 0, .slice none 0 0, .int .i64 0] 28) := ⟨_, rfl⟩
          obtain ⟨hz, -, hb⟩ := one_block hv
          rw [← hv, ← hgd]
          rw [← hgd] at hz
          have HZ := Lib.hid hz
          clear hz hv
          have ng_X := lt_of_block HX.out
          rw [← hgd] at ng_X
          have ng_rS1 : ∀ i, (Value.slice S1 N1 s1).ownBlock = some i → i ≠ g := fun i e => by have := rS1.lt i e; have := rS1.top; omega
          have ng_rS2 : ∀ i, (Value.slice S2 N2 s2).ownBlock = some i → i ≠ g := fun i e => by have := rS2.lt i e; have := rS2.top; omega
          replace HX := Lib.hid ((hb.block _ (lt_of_block HX.out)).trans HX.out)
          replace rS1 := rS1.below hb
          replace rS2 := rS2.below hb
          replace acc := acc.trans (hb.mono acc.size)
          have hg0 : v0.heap.size ≤ g := by rw [hgd]; exact hv0k
          replace hv0k := Nat.le_trans hv0k hb.size
          clear hb hgd
          refine hK.out _ _ HX.out (fun hH => ?_)
          clear hK K
          try simp only [Act.put, List.setIfInBounds_toArray, List.set_cons_zero, List.set_cons_succ]
          refine wpAnyH_ready (rs := [10]) (by decide +kernel) (by simp) (AllReadyH.cons rfl (fun K hK => ?_) AllReadyH.nil)
          obtain ⟨z0, z1, z2, z3⟩ := cells4 HZ.out
          have fz : ∀ j, v4.frozen? ⟨g, j, none⟩ = false := fun j => frozen_of_row _ _ j _ _ HZ.out
          have lg := lt_of_block HZ.out
          go_simp
          obtain ⟨vS, hvS⟩ : ∃ vS, vS = ((((v4.setCell ⟨g, 0, none⟩ (.slice S1 N1 s1)).setCell ⟨g, 1, none⟩ (.int .i64 rv)).setCell ⟨g, 2, none⟩ (.slice S2 N2 s2)).setCell ⟨g, 3, none⟩ (.int .i64 rl)) := ⟨_, rfl⟩
          replace HX : Hid (vS.heap[W.heap.size]? = some (.cells #[.slice A1 n1 c1, .int .i64 x0, .slice B1 m1 d1, .int .i64 x1] 25 (0, 0))) := Lib.hid (by rw [hvS]; exact unstored4 HX.out (by have := ng_X; omega))
          have hZS : vS.heap[g]? = some (.cells #[.slice S1 N1 s1, .int .i64 rv, .slice S2 N2 s2, .int .i64 rl] 28 (0, 0)) := by rw [hvS]; exact stored4 HZ.out
          have aS : Below W.heap.size W vS := by rw [hvS]; exact below_set4 _ _ _ _ acc (by have := ng_X; omega)
          replace rS1 := (ow_set4CutFor (y1 := .slice S1 N1 s1) (y2 := .int .i64 rv) (y3 := .slice S2 N2 s2) (y4 := .int .i64 rl) rS1 (fun i e => ng_rS1 i e))
          rw [← hvS] at rS1
          replace rS2 := (ow_set4CutFor (y1 := .slice S1 N1 s1) (y2 := .int .i64 rv) (y3 := .slice S2 N2 s2) (y4 := .int .i64 rl) rS2 (fun i e => ng_rS2 i e))
          rw [← hvS] at rS2
          rw [← hvS]
          clear hvS z0 z1 z2 z3 fz
          refine hK.out _ _ HX.out (fun hH => ?_)
          clear hK K
          try simp only [Act.put, List.setIfInBounds_toArray, List.set_cons_zero, List.set_cons_succ]
          refine wpAnyH_ready (rs := [11]) (by decide +kernel) (by simp) (AllReadyH.cons rfl (fun K hK => ?_) AllReadyH.nil)
          go_simp
          refine hK.out _ _ HX.out (fun hH => ?_)
          clear hK K
          try simp only [Act.put, List.setIfInBounds_toArray, List.set_cons_zero, List.set_cons_succ]
          refine wpAnyH_done (by decide +kernel) ?_ _
          exact TAIL vS g T E1 e1 E2 e2 S1 N1 s1 S2 N2 s2 ⟨HX.out, hZS, hg0, Ow.new (rS1.own.mono rS1l), Ow.new (rS2.own.mono rS2l), hN1.out, hN2.out, aS⟩
        · skip
          go_simp
          obtain ⟨g, hgd⟩ : ∃ g, g = v2.heap.size := ⟨_, rfl⟩
          obtain ⟨v3, hv⟩ : ∃ v, v = v2.alloc (.cells #[.slice none 0 0, .int .i64 0, .slice none 0 0, .int .i64 0] 28) := ⟨_, rfl⟩
          obtain ⟨hz, -, hb⟩ := one_block hv
          rw [← hv, ← hgd]
          rw [← hgd] at hz
          have HZ := Lib.hid hz
          clear hz hv
          have ng_X := lt_of_block HX.out
          rw [← hgd] at ng_X
          replace HX := Lib.hid ((hb.block _ (lt_of_block HX.out)).trans HX.out)
          replace q1 := q1.below hb
          replace q2 := q2.below hb
          replace q3 := q3.below hb
          replace acc := acc.trans (hb.mono acc.size)
          have hg0 : v0.heap.size ≤ g := by rw [hgd]; exact hv0k
          replace hv0k := Nat.le_trans hv0k hb.size
          clear hb hgd
          refine hK.out _ _ HX.out (fun hH => ?_)
          clear hK K
          try simp only [Act.put, List.setIfInBounds_toArray, List.set_cons_zero, List.set_cons_succ]
          refine wpAnyH_ready (rs := [5]) (by decide +kernel) (by simp) (AllReadyH.cons rfl (fun K hK => ?_) AllReadyH.nil)
          have hSP := spec_CutFor (w := v3) (x := ⟨zs1, x0, ys1, x1⟩) ⟨q1.sl (by omega) hw0, q2.sl (by omega) hw1, hb1, q3.sl (by omega) hw2, hb2, b0, b1⟩ a4 wa4
          rw [HR.out] at hSP
          simp only [ctlV] at hSP
          go_simp
          refine hSP.mono ?_
          rintro e v4 ⟨v, rfl, ⟨S1, N1, s1, S2, N2, s2, rfl, ho1, ho2, -⟩, hb⟩
          simp only [ctlV]
          clear hSP q1 q2 q3
          have ng_rS1 : ∀ i, (Value.slice S1 N1 s1).ownBlock = some i → i ≠ g := fun i e => by have := (ho1.block i e).1; have := lt_of_block HZ.out; omega
          have ng_rS2 : ∀ i, (Value.slice S2 N2 s2).ownBlock = some i → i ≠ g := fun i e => by have := (ho2.block i e).1; have := lt_of_block HZ.out; omega
          have rS1l := acc.size
          have rS2l := acc.size
          have hN1 : Hid (N1 = rs.length) := Lib.hid ho1.len
          have hN2 : Hid (N2 = rn.length) := Lib.hid ho2.len
          replace HX := Lib.hid ((hb.block _ (lt_of_block HX.out)).trans HX.out)
          replace HZ := Lib.hid ((hb.block _ (lt_of_block HZ.out)).trans HZ.out)
          replace acc := acc.trans (hb.mono acc.size)
          have rS1 := Ow.new ho1
          have rS2 := Ow.new ho2
          clear ho1 ho2
          replace hv0k := Nat.le_trans hv0k hb.size
          clear hb
          go_wp2_with fail
          refine hK.out _ _ HX.out (fun hH => ?_)
          clear hK K
          try simp only [Act.put, List.setIfInBounds_toArray, List.set_cons_zero, List.set_cons_succ]
          refine wpAnyH_take (i := 6) (v := .tuple #[.agg #[.slice S1 N1 s1, .int .i64 rv, .slice S2 N2 s2, .int .i64 rl], .bool rb]) rfl (by kernel_rfl) (by kernel_rfl) (by kernel_rfl) (fun _ _ _ h => h) (Or.inl ⟨by rfl, by intro W' hSw; go_simp⟩) hH ?_
          try simp only [Act.put, List.setIfInBounds_toArray, List.set_cons_zero, List.set_cons_succ]
          refine wpAnyH_take (i := 7) (v := .agg #[.slice S1 N1 s1, .int .i64 rv, .slice S2 N2 s2, .int .i64 rl]) rfl (by kernel_rfl) (by kernel_rfl) (by kernel_rfl) (fun _ _ _ h => h) (Or.inl ⟨by rfl, by intro W' hSw; go_simp⟩) hH ?_
          try simp only [Act.put, List.setIfInBounds_toArray, List.set_cons_zero, List.set_cons_succ]
          refine wpAnyH_take (i := 8) (v := .bool rb) rfl (by kernel_rfl) (by kernel_rfl) (by kernel_rfl) (fun _ _ _ h => h) (Or.inl ⟨by rfl, by intro W' hSw; go_simp⟩) hH ?_
          try simp only [Act.put, List.setIfInBounds_toArray, List.set_cons_zero, List.set_cons_succ]
          refine wpAnyH_ready (rs := [10]) (by decide +kernel) (by simp) (AllReadyH.cons rfl (fun K hK => ?_) AllReadyH.nil)
          obtain ⟨z0, z1, z2, z3⟩ := cells4 HZ.out
          have fz : ∀ j, v4.frozen? ⟨g, j, none⟩ = false := fun j => frozen_of_row _ _ j _ _ HZ.out
          have lg := lt_of_block HZ.out
          go_simp
          obtain ⟨vS, hvS⟩ : ∃ vS, vS = ((((v4.setCell ⟨g, 0, none⟩ (.slice S1 N1 s1)).setCell ⟨g, 1, none⟩ (.int .i64 rv)).setCell ⟨g, 2, none⟩ (.slice S2 N2 s2)).setCell ⟨g, 3, none⟩ (.int .i64 rl)) := ⟨_, rfl⟩
          replace HX : Hid (vS.heap[W.heap.size]? = some (.cells #[.slice A1 n1 c1, .int .i64 x0, .slice B1 m1 d1, .int .i64 x1] 25 (0, 0))) := Lib.hid (by rw [hvS]; exact unstored4 HX.out (by have := ng_X; omega))
          have hZS : vS.heap[g]? = some (.cells #[.slice S1 N1 s1, .int .i64 rv, .slice S2 N2 s2, .int .i64 rl] 28 (0, 0)) := by rw [hvS]; exact stored4 HZ.out
          have aS : Below W.heap.size W vS := by rw [hvS]; exact below_set4 _ _ _ _ acc (by have := ng_X; omega)
          replace rS1 := (ow_set4CutFor (y1 := .slice S1 N1 s1) (y2 := .int .i64 rv) (y3 := .slice S2 N2 s2) (y4 := .int .i64 rl) rS1 (fun i e => ng_rS1 i e))
          rw [← hvS] at rS1
          replace rS2 := (ow_set4CutFor (y1 := .slice S1 N1 s1) (y2 := .int .i64 rv) (y3 := .slice S2 N2 s2) (y4 := .int .i64 rl) rS2 (fun i e => ng_rS2 i e))
          rw [← hvS] at rS2
          rw [← hvS]
          clear hvS z0 z1 z2 z3 fz
          refine hK.out _ _ HX.out (fun hH => ?_)
          clear hK K
          try simp only [Act.put, List.setIfInBounds_toArray, List.set_cons_zero, List.set_cons_succ]
          refine wpAnyH_ready (rs := [11]) (by decide +kernel) (by simp) (AllReadyH.cons rfl (fun K hK => ?_) AllReadyH.nil)
          go_simp
          refine hK.out _ _ HX.out (fun hH => ?_)
          clear hK K
          try simp only [Act.put, List.setIfInBounds_toArray, List.set_cons_zero, List.set_cons_succ]
          refine wpAnyH_done (by decide +kernel) ?_ _
          exact TAIL vS g T E1 e1 E2 e2 S1 N1 s1 S2 N2 s2 ⟨HX.out, hZS, hg0, Ow.new (rS1.own.mono rS1l), Ow.new (rS2.own.mono rS2l), hN1.out, hN2.out, aS⟩
      · skip
        go_simp
        obtain ⟨g, hgd⟩ : ∃ g, g = v1.heap.size := ⟨_, rfl⟩
        obtain ⟨v2, hv⟩ : ∃ v, v = v1.alloc (.cells #[.slice none 0 0, .int .i64 0, .slice none 0 0, .int .i64 0] 28) := ⟨_, rfl⟩
        obtain ⟨hz, -, hb⟩ := one_block hv
        rw [← hv, ← hgd]
        rw [← hgd] at hz
        have HZ := Lib.hid hz
        clear hz hv
        have ng_X := lt_of_block HX.out
        rw [← hgd] at ng_X
        replace HX := Lib.hid ((hb.block _ (lt_of_block HX.out)).trans HX.out)
        replace q1 := q1.below hb
        replace acc := acc.trans (hb.mono acc.size)
        have hg0 : v0.heap.size ≤ g := by rw [hgd]; exact hv0k
        replace hv0k := Nat.le_trans hv0k hb.size
        clear hb hgd
        refine hK.out _ _ HX.out (fun hH => ?_)
        clear hK K
        try simp only [Act.put, List.setIfInBounds_toArray, List.set_cons_zero, List.set_cons_succ]
        refine wpAnyH_ready (rs := [3]) (by decide +kernel) (by simp) (AllReadyH.cons rfl (fun K hK => ?_) AllReadyH.nil)
        go_simp
        refine (HTO.out _ acc hb1 hb2).mono ?_
        rintro e v3 ⟨E1, e1, E2, e2, rfl, ho1, ho2, -, hb⟩
        replace HX := Lib.hid ((hb.block _ (lt_of_block HX.out)).trans HX.out)
        replace HZ := Lib.hid ((hb.block _ (lt_of_block HZ.out)).trans HZ.out)
        replace q1 := q1.below hb
        replace acc := acc.trans (hb.mono acc.size)
        have q2 := Ow.new ho1
        have q3 := Ow.new ho2
        clear ho1 ho2
        replace hv0k := Nat.le_trans hv0k hb.size
        clear hb
        go_wp2_with fail
        refine hK.out _ _ HX.out (fun hH => ?_)
        clear hK K
        try simp only [Act.put, List.setIfInBounds_toArray, List.set_cons_zero, List.set_cons_succ]
        refine wpAnyH_ready (rs := [5]) (by decide +kernel) (by simp) (AllReadyH.cons rfl (fun K hK => ?_) AllReadyH.nil)
        have hSP := spec_CutFor (w := v3) (x := ⟨zs1, x0, ys1, x1⟩) ⟨q1.sl (by omega) hw0, q2.sl (by omega) hw1, hb1, q3.sl (by omega) hw2, hb2, b0, b1⟩ a4 wa4
        rw [HR.out] at hSP
        simp only [ctlV] at hSP
        go_simp
        refine hSP.mono ?_
        rintro e v4 ⟨v, rfl, ⟨S1, N1, s1, S2, N2, s2, rfl, ho1, ho2, -⟩, hb⟩
        simp only [ctlV]
        clear hSP q1 q2 q3
        have ng_rS1 : ∀ i, (Value.slice S1 N1 s1).ownBlock = some i → i ≠ g := fun i e => by have := (ho1.block i e).1; have := lt_of_block HZ.out; omega
        have ng_rS2 : ∀ i, (Value.slice S2 N2 s2).ownBlock = some i → i ≠ g := fun i e => by have := (ho2.block i e).1; have := lt_of_block HZ.out; omega
        have rS1l := acc.size
        have rS2l := acc.size
        have hN1 : Hid (N1 = rs.length) := Lib.hid ho1.len
        have hN2 : Hid (N2 = rn.length) := Lib.hid ho2.len
        replace HX := Lib.hid ((hb.block _ (lt_of_block HX.out)).trans HX.out)
        replace HZ := Lib.hid ((hb.block _ (lt_of_block HZ.out)).trans HZ.out)
        replace acc := acc.trans (hb.mono acc.size)
        have rS1 := Ow.new ho1
        have rS2 := Ow.new ho2
        clear ho1 ho2
        replace hv0k := Nat.le_trans hv0k hb.size
        clear hb
        go_wp2_with fail
        refine hK.out _ _ HX.out (fun hH => ?_)
        clear hK K
        try simp only [Act.put, List.setIfInBounds_toArray, List.set_cons_zero, List.set_cons_succ]
        refine wpAnyH_take (i := 6) (v := .tuple #[.agg #[.slice S1 N1 s1, .int .i64 rv, .slice S2 N2 s2, .int .i64 rl], .bool rb]) rfl (by kernel_rfl) (by kernel_rfl) (by kernel_rfl) (fun _ _ _ h => h) (Or.inl ⟨by rfl, by intro W' hSw; go_simp⟩) hH ?_
        try simp only [Act.put, List.setIfInBounds_toArray, List.set_cons_zero, List.set_cons_succ]
        refine wpAnyH_take (i := 7) (v := .agg #[.slice S1 N1 s1, .int .i64 rv, .slice S2 N2 s2, .int .i64 rl]) rfl (by kernel_rfl) (by kernel_rfl) (by kernel_rfl) (fun _ _ _ h => h) (Or.inl ⟨by rfl, by intro W' hSw; go_simp⟩) hH ?_
        try simp only [Act.put, List.setIfInBounds_toArray, List.set_cons_zero, List.set_cons_succ]
        refine wpAnyH_take (i := 8) (v := .bool rb) rfl (by kernel_rfl) (by kernel_rfl) (by kernel_rfl) (fun _ _ _ h => h) (Or.inl ⟨by rfl, by intro W' hSw; go_simp⟩) hH ?_
        try simp only [Act.put, List.setIfInBounds_toArray, List.set_cons_zero, List.set_cons_succ]
        refine wpAnyH_ready (rs := [10]) (by decide +kernel) (by simp) (AllReadyH.cons rfl (fun K hK => ?_) AllReadyH.nil)
        obtain ⟨z0, z1, z2, z3⟩ := cells4 HZ.out
        have fz : ∀ j, v4.frozen? ⟨g, j, none⟩ = false := fun j => frozen_of_row _ _ j _ _ HZ.out
        have lg := lt_of_block HZ.out
        go_simp
        obtain ⟨vS, hvS⟩ : ∃ vS, vS = ((((v4.setCell ⟨g, 0, none⟩ (.slice S1 N1 s1)).setCell ⟨g, 1, none⟩ (.int .i64 rv)).setCell ⟨g, 2, none⟩ (.slice S2 N2 s2)).setCell ⟨g, 3, none⟩ (.int .i64 rl)) := ⟨_, rfl⟩
        replace HX : Hid (vS.heap[W.heap.size]? = some (.cells #[.slice A1 n1 c1, .int .i64 x0, .slice B1 m1 d1, .int .i64 x1] 25 (0, 0))) := Lib.hid (by rw [hvS]; exact unstored4 HX.out (by have := ng_X; omega))
        have hZS : vS.heap[g]? = some (.cells #[.slice S1 N1 s1, .int .i64 rv, .slice S2 N2 s2, .int .i64 rl] 28 (0, 0)) := by rw [hvS]; exact stored4 HZ.out
        have aS : Below W.heap.size W vS := by rw [hvS]; exact below_set4 _ _ _ _ acc (by have := ng_X; omega)
        replace rS1 := (ow_set4CutFor (y1 := .slice S1 N1 s1) (y2 := .int .i64 rv) (y3 := .slice S2 N2 s2) (y4 := .int .i64 rl) rS1 (fun i e => ng_rS1 i e))
        rw [← hvS] at rS1
        replace rS2 := (ow_set4CutFor (y1 := .slice S1 N1 s1) (y2 := .int .i64 rv) (y3 := .slice S2 N2 s2) (y4 := .int .i64 rl) rS2 (fun i e => ng_rS2 i e))
        rw [← hvS] at rS2
        rw [← hvS]
        clear hvS z0 z1 z2 z3 fz
        refine hK.out _ _ HX.out (fun hH => ?_)
        clear hK K
        try simp only [Act.put, List.setIfInBounds_toArray, List.set_cons_zero, List.set_cons_succ]
        refine wpAnyH_ready (rs := [11]) (by decide +kernel) (by simp) (AllReadyH.cons rfl (fun K hK => ?_) AllReadyH.nil)
        go_simp
        refine hK.out _ _ HX.out (fun hH => ?_)
        clear hK K
        try simp only [Act.put, List.setIfInBounds_toArray, List.set_cons_zero, List.set_cons_succ]
        refine wpAnyH_done (by decide +kernel) ?_ _
        exact TAIL vS g T E1 e1 E2 e2 S1 N1 s1 S2 N2 s2 ⟨HX.out, hZS, hg0, Ow.new (rS1.own.mono rS1l), Ow.new (rS2.own.mono rS2l), hN1.out, hN2.out, aS⟩
    · skip
      go_simp
      obtain ⟨g, hgd⟩ : ∃ g, g = v0.heap.size := ⟨_, rfl⟩
      obtain ⟨v1, hv⟩ : ∃ v, v = v0.alloc (.cells #[.slice none 0 0, .int .i64 0, .slice none 0 0, .int .i64 0] 28) := ⟨_, rfl⟩
      obtain ⟨hz, -, hb⟩ := one_block hv
      rw [← hv, ← hgd]
      rw [← hgd] at hz
      have HZ := Lib.hid hz
      clear hz hv
      have ng_X := lt_of_block HX.out
      rw [← hgd] at ng_X
      replace HX := Lib.hid ((hb.block _ (lt_of_block HX.out)).trans HX.out)
      replace acc := acc.trans (hb.mono acc.size)
      have hg0 : v0.heap.size ≤ g := by omega
      have hv0k : v0.heap.size ≤ v1.heap.size := hb.size
      clear hb hgd
      refine hK.out _ _ HX.out (fun hH => ?_)
      clear hK K
      try simp only [Act.put, List.setIfInBounds_toArray, List.set_cons_zero, List.set_cons_succ]
      refine wpAnyH_ready (rs := [1]) (by decide +kernel) (by simp) (AllReadyH.cons rfl (fun K hK => ?_) AllReadyH.nil)
      go_simp
      refine (to_pthECutFor A0 n0 c0 W.heap.size zs0 _ (hi0.keep fun _ hp => acc.cell hp) acc.size (by omega)).mono ?_
      rintro e v2 ⟨T, rfl, ho, hb⟩
      replace HX := Lib.hid ((hb.block _ (lt_of_block HX.out)).trans HX.out)
      replace HZ := Lib.hid ((hb.block _ (lt_of_block HZ.out)).trans HZ.out)
      replace acc := acc.trans (hb.mono acc.size)
      have q1 := OwP.new ho
      clear ho
      replace hv0k := Nat.le_trans hv0k hb.size
      clear hb
      go_wp2_with fail
      refine hK.out _ _ HX.out (fun hH => ?_)
      clear hK K
      try simp only [Act.put, List.setIfInBounds_toArray, List.set_cons_zero, List.set_cons_succ]
      refine wpAnyH_ready (rs := [3]) (by decide +kernel) (by simp) (AllReadyH.cons rfl (fun K hK => ?_) AllReadyH.nil)
      go_simp
      refine (HTO.out _ acc hb1 hb2).mono ?_
      rintro e v3 ⟨E1, e1, E2, e2, rfl, ho1, ho2, -, hb⟩
      replace HX := Lib.hid ((hb.block _ (lt_of_block HX.out)).trans HX.out)
      replace HZ := Lib.hid ((hb.block _ (lt_of_block HZ.out)).trans HZ.out)
      replace q1 := q1.below hb
      replace acc := acc.trans (hb.mono acc.size)
      have q2 := Ow.new ho1
      have q3 := Ow.new ho2
      clear ho1 ho2
      replace hv0k := Nat.le_trans hv0k hb.size
      clear hb
      go_wp2_with fail
      refine hK.out _ _ HX.out (fun hH => ?_)
      clear hK K
      try simp only [Act.put, List.setIfInBounds_toArray, List.set_cons_zero, List.set_cons_succ]
      refine wpAnyH_ready (rs := [5]) (by decide +kernel) (by simp) (AllReadyH.cons rfl (fun K hK => ?_) AllReadyH.nil)
      have hSP := spec_CutFor (w := v3) (x := ⟨zs1, x0, ys1, x1⟩) ⟨q1.sl (by omega) hw0, q2.sl (by omega) hw1, hb1, q3.sl (by omega) hw2, hb2, b0, b1⟩ a4 wa4
      rw [HR.out] at hSP
      simp only [ctlV] at hSP
      go_simp
      refine hSP.mono ?_
      rintro e v4 ⟨v, rfl, ⟨S1, N1, s1, S2, N2, s2, rfl, ho1, ho2, -⟩, hb⟩
      simp only [ctlV]
      clear hSP q1 q2 q3
      have ng_rS1 : ∀ i, (Value.slice S1 N1 s1).ownBlock = some i → i ≠ g := fun i e => by have := (ho1.block i e).1; have := lt_of_block HZ.out; omega
      have ng_rS2 : ∀ i, (Value.slice S2 N2 s2).ownBlock = some i → i ≠ g := fun i e => by have := (ho2.block i e).1; have := lt_of_block HZ.out; omega
      have rS1l := acc.size
      have rS2l := acc.size
      have hN1 : Hid (N1 = rs.length) := Lib.hid ho1.len
      have hN2 : Hid (N2 = rn.length) := Lib.hid ho2.len
      replace HX := Lib.hid ((hb.block _ (lt_of_block HX.out)).trans HX.out)
      replace HZ := Lib.hid ((hb.block _ (lt_of_block HZ.out)).trans HZ.out)
      replace acc := acc.trans (hb.mono acc.size)
      have rS1 := Ow.new ho1
      have rS2 := Ow.new ho2
      clear ho1 ho2
      replace hv0k := Nat.le_trans hv0k hb.size
      clear hb
      go_wp2_with fail
      refine hK.out _ _ HX.out (fun hH => ?_)
      clear hK K
      try simp only [Act.put, List.setIfInBounds_toArray, List.set_cons_zero, List.set_cons_succ]
      refine wpAnyH_take (i := 6) (v := .tuple #[.agg #[.slice S1 N1 s1, .int .i64 rv, .slice S2 N2 s2, .int .i64 rl], .bool rb]) rfl (by kernel_rfl) (by kernel_rfl) (by kernel_rfl) (fun _ _ _ h => h) (Or.inl ⟨by rfl, by intro W' hSw; go_simp⟩) hH ?_
      try simp only [Act.put, List.setIfInBounds_toArray, List.set_cons_zero, List.set_cons_succ]
      refine wpAnyH_take (i := 7) (v := .agg #[.slice S1 N1 s1, .int .i64 rv, .slice S2 N2 s2, .int .i64 rl]) rfl (by kernel_rfl) (by kernel_rfl) (by kernel_rfl) (fun _ _ _ h => h) (Or.inl ⟨by rfl, by intro W' hSw; go_simp⟩) hH ?_
      try simp only [Act.put, List.setIfInBounds_toArray, List.set_cons_zero, List.set_cons_succ]
      refine wpAnyH_take (i := 8) (v := .bool rb) rfl (by kernel_rfl) (by kernel_rfl) (by kernel_rfl) (fun _ _ _ h => h) (Or.inl ⟨by rfl, by intro W' hSw; go_simp⟩) hH ?_
      try simp only [Act.put, List.setIfInBounds_toArray, List.set_cons_zero, List.set_cons_succ]
      refine wpAnyH_ready (rs := [10]) (by decide +kernel) (by simp) (AllReadyH.cons rfl (fun K hK => ?_) AllReadyH.nil)
      obtain ⟨z0, z1, z2, z3⟩ := cells4 HZ.out
      have fz : ∀ j, v4.frozen? ⟨g, j, none⟩ = false := fun j => frozen_of_row _ _ j _ _ HZ.out
      have lg := lt_of_block HZ.out
      go_simp
      obtain ⟨vS, hvS⟩ : ∃ vS, vS = ((((v4.setCell ⟨g, 0, none⟩ (.slice S1 N1 s1)).setCell ⟨g, 1, none⟩ (.int .i64 rv)).setCell ⟨g, 2, none⟩ (.slice S2 N2 s2)).setCell ⟨g, 3, none⟩ (.int .i64 rl)) := ⟨_, rfl⟩
      replace HX : Hid (vS.heap[W.heap.size]? = some (.cells #[.slice A1 n1 c1, .int .i64 x0, .slice B1 m1 d1, .int .i64 x1] 25 (0, 0))) := Lib.hid (by rw [hvS]; exact unstored4 HX.out (by have := ng_X; omega))
      have hZS : vS.heap[g]? = some (.cells #[.slice S1 N1 s1, .int .i64 rv, .slice S2 N2 s2, .int .i64 rl] 28 (0, 0)) := by rw [hvS]; exact stored4 HZ.out
      have aS : Below W.heap.size W vS := by rw [hvS]; exact below_set4 _ _ _ _ acc (by have := ng_X; omega)
      replace rS1 := (ow_set4CutFor (y1 := .slice S1 N1 s1) (y2 := .int .i64 rv) (y3 := .slice S2 N2 s2) (y4 := .int .i64 rl) rS1 (fun i e => ng_rS1 i e))
      rw [← hvS] at rS1
      replace rS2 := (ow_set4CutFor (y1 := .slice S1 N1 s1) (y2 := .int .i64 rv) (y3 := .slice S2 N2 s2) (y4 := .int .i64 rl) rS2 (fun i e => ng_rS2 i e))
      rw [← hvS] at rS2
      rw [← hvS]
      clear hvS z0 z1 z2 z3 fz
      refine hK.out _ _ HX.out (fun hH => ?_)
      clear hK K
      try simp only [Act.put, List.setIfInBounds_toArray, List.set_cons_zero, List.set_cons_succ]
      refine wpAnyH_ready (rs := [11]) (by decide +kernel) (by simp) (AllReadyH.cons rfl (fun K hK => ?_) AllReadyH.nil)
      go_simp
      refine hK.out _ _ HX.out (fun hH => ?_)
      clear hK K
      try simp only [Act.put, List.setIfInBounds_toArray, List.set_cons_zero, List.set_cons_succ]
      refine wpAnyH_done (by decide +kernel) ?_ _
      exact TAIL vS g T E1 e1 E2 e2 S1 N1 s1 S2 N2 s2 ⟨HX.out, hZS, hg0, Ow.new (rS1.own.mono rS1l), Ow.new (rS2.own.mono rS2l), hN1.out, hN2.out, aS⟩
  intro w2 gM TM EM1 eM1 EM2 eM2 M1 M1n M1c M2 M2n M2c hF
  obtain ⟨fX, fN, hg, rM1, rM2, hN1, hN2, ac⟩ := hF
  have HX' := Lib.hid fX
  clear HX fX
  have HX := HX'
  clear HX'
  have HM := Lib.hid fN
  have lgw := lt_of_block fN
  clear fN
  clear acc
  have acc := ac
  clear ac
  have LF2 := Lib.hid (hg)
  have LF3 := Lib.hid (lgw)
  have hb_M1 : M1n ≤ 1048576 := by omega
  have hb_M2 : M2n ≤ 1048576 := by omega
  have LF4 := Lib.hid (hN1)
  have LF5 := Lib.hid (hN2)
  clear hg lgw hN1 hN2
  go_wp2_with fail
  refine (to_pthECutFor A0 n0 c0 W.heap.size zs0 _ (hi0.keep fun _ hp => acc.cell hp) acc.size (by omega)).mono ?_
  rintro e w3 ⟨Tx, rfl, ho, hb⟩
  replace HX := Lib.hid ((hb.block _ (lt_of_block HX.out)).trans HX.out)
  replace HM := Lib.hid ((hb.block _ (lt_of_block HM.out)).trans HM.out)
  replace rM1 := rM1.below hb
  replace rM2 := rM2.below hb
  replace acc := acc.trans (hb.mono acc.size)
  have LF6 := Lib.hid (hb.size)
  have t2 := OwP.new ho
  clear ho hb
  obtain ⟨k0, k1, k2, k3⟩ := cells4 HX.out
  have lt_X := lt_of_block HX.out
  go_wp2_with fail
  refine (HTO.out _ acc hb1 hb2).mono ?_
  rintro e w4 ⟨G1, g1, G2, g2, rfl, ho1, ho2, hap, hb⟩
  clear k0 k1 k2 k3 lt_X
  replace HX := Lib.hid ((hb.block _ (lt_of_block HX.out)).trans HX.out)
  replace HM := Lib.hid ((hb.block _ (lt_of_block HM.out)).trans HM.out)
  replace rM1 := rM1.below hb
  replace rM2 := rM2.below hb
  replace t2 := t2.below hb
  replace acc := acc.trans (hb.mono acc.size)
  have LF7 := Lib.hid (hb.size)
  have HAP := Lib.hid hap
  have s1 := Ow.new ho1
  have s2 := Ow.new ho2
  clear ho1 ho2 hap hb
  obtain ⟨w5, hwY⟩ : ∃ w, w = w4.alloc (.cells #[.slice G1 n1 g1, .int .i64 x0, .slice G2 m1 g2, .int .i64 x1] 28) := ⟨_, rfl⟩
  obtain ⟨hy, -, hb⟩ := one_block hwY
  replace HX := Lib.hid ((hb.block _ (lt_of_block HX.out)).trans HX.out)
  replace HM := Lib.hid ((hb.block _ (lt_of_block HM.out)).trans HM.out)
  replace rM1 := rM1.below hb
  replace rM2 := rM2.below hb
  replace t2 := t2.below hb
  replace s1 := s1.below hb
  replace s2 := s2.below hb
  replace acc := acc.trans (hb.mono acc.size)
  have LF8 := Lib.hid (hb.size)
  have HY := Lib.hid hy
  have hlt := lt_of_block hy
  have LF9 := Lib.hid (hlt)
  clear hy hb hlt
  have hIM := impl_CutFor (w := w5) (x := ⟨zs1, x0, ys1, x1⟩) ⟨t2.sl (by omega) hw0, s1.sl (by omega) hw1, hb1, s2.sl (by omega) hw2, hb2, b0, b1⟩ a4 wa4 (HV0.out.below acc (Nat.le_refl _)) (HV1.out.below acc (Nat.le_refl _)) (HV2.out.below acc (Nat.le_refl _))
  rw [HR.out] at hIM
  simp only [ctlV] at hIM
  have HIM := Lib.hid hIM
  clear hIM
  go_wp2_with fail
  rw [← hwY]
  clear hwY
  refine HIM.out.mono ?_
  rintro e w6 ⟨v, rfl, ⟨P1, P1n, P1c, P2, P2n, P2c, rfl, ho1, ho2, hap⟩, hb⟩
  simp only [ctlV]
  replace HX := Lib.hid ((hb.block _ (lt_of_block HX.out)).trans HX.out)
  replace HM := Lib.hid ((hb.block _ (lt_of_block HM.out)).trans HM.out)
  replace HY := Lib.hid ((hb.block _ (lt_of_block HY.out)).trans HY.out)
  replace rM1 := rM1.below hb
  replace rM2 := rM2.below hb
  replace t2 := t2.below hb
  replace s1 := s1.below hb
  replace s2 := s2.below hb
  replace acc := acc.trans (hb.mono acc.size)
  have LF10 := Lib.hid (hb.size)
  have hN1 : P1n = rs.length := ho1.len
  have hN2 : P2n = rn.length := ho2.len
  have HAG := Lib.hid hap
  have p1 := Ow.new ho1
  have p2 := Ow.new ho2
  have hb_P1 : P1n ≤ 1048576 := by omega
  have hb_P2 : P2n ≤ 1048576 := by omega
  have LF11 := Lib.hid (hN1)
  have LF12 := Lib.hid (hN2)
  clear ho1 ho2 hap hb HIM hN1 hN2
  obtain ⟨w7, hwP⟩ : ∃ w, w = w6.alloc (.cells #[.slice P1 P1n P1c, .int .i64 rv, .slice P2 P2n P2c, .int .i64 rl] 28) := ⟨_, rfl⟩
  obtain ⟨hy, -, hb⟩ := one_block hwP
  replace HX := Lib.hid ((hb.block _ (lt_of_block HX.out)).trans HX.out)
  replace HM := Lib.hid ((hb.block _ (lt_of_block HM.out)).trans HM.out)
  replace HY := Lib.hid ((hb.block _ (lt_of_block HY.out)).trans HY.out)
  replace rM1 := rM1.below hb
  replace rM2 := rM2.below hb
  replace t2 := t2.below hb
  replace s1 := s1.below hb
  replace s2 := s2.below hb
  replace p1 := p1.below hb
  replace p2 := p2.below hb
  replace acc := acc.trans (hb.mono acc.size)
  have LF13 := Lib.hid (hb.size)
  have HP := Lib.hid hy
  have hlt := lt_of_block hy
  have LF14 := Lib.hid (hlt)
  clear hy hb hlt
  have hq := HM.out
  rw [hwP] at hq
  obtain ⟨kb0, kb1, kb2, kb3⟩ := cells4 hq
  have lt_M := lt_of_block hq
  clear hq
  have hEQ := same_ctl rv rl P1 P1n P1c M1 M1n M1c rs P2 P2n P2c M2 M2n M2c rn w7 p1.ints rM1.ints hb_P1 hb_M1 p2.ints rM2.ints hb_P2 hb_M2
  simp only [ctlV] at hEQ
  have HEQ := Lib.hid hEQ
  clear hEQ
  go_wp2_with fail
  rw [← hwP]
  clear hwP
  refine HEQ.out.mono ?_
  rintro e w8 ⟨rfl, hb⟩
  clear HEQ kb0 kb1 kb2 kb3 lt_M
  replace HX := Lib.hid ((hb.block _ (lt_of_block HX.out)).trans HX.out)
  replace HM := Lib.hid ((hb.block _ (lt_of_block HM.out)).trans HM.out)
  replace HY := Lib.hid ((hb.block _ (lt_of_block HY.out)).trans HY.out)
  replace HP := Lib.hid ((hb.block _ (lt_of_block HP.out)).trans HP.out)
  replace rM1 := rM1.below hb
  replace rM2 := rM2.below hb
  replace t2 := t2.below hb
  replace s1 := s1.below hb
  replace s2 := s2.below hb
  replace p1 := p1.below hb
  replace p2 := p2.below hb
  replace acc := acc.trans (hb.mono acc.size)
  have LF15 := Lib.hid (hb.size)
  clear hb
  go_wp2_with fail
  refine (to_pthECutFor A0 n0 c0 W.heap.size zs0 _ (hi0.keep fun _ hp => acc.cell hp) acc.size (by omega)).mono ?_
  rintro e w9 ⟨Tz, rfl, ho, hb⟩
  replace HX := Lib.hid ((hb.block _ (lt_of_block HX.out)).trans HX.out)
  replace HM := Lib.hid ((hb.block _ (lt_of_block HM.out)).trans HM.out)
  replace HY := Lib.hid ((hb.block _ (lt_of_block HY.out)).trans HY.out)
  replace HP := Lib.hid ((hb.block _ (lt_of_block HP.out)).trans HP.out)
  replace rM1 := rM1.below hb
  replace rM2 := rM2.below hb
  replace t2 := t2.below hb
  replace s1 := s1.below hb
  replace s2 := s2.below hb
  replace p1 := p1.below hb
  replace p2 := p2.below hb
  replace acc := acc.trans (hb.mono acc.size)
  have LF16 := Lib.hid (hb.size)
  have t3 := OwP.new ho
  clear ho hb
  go_wp2_with fail
  refine (eqs_pth _ _ _ zs0 _ _ _ _ t2.ints t3.ints (by omega) (by omega)).mono ?_
  rintro e w10 ⟨rfl, hb⟩
  replace HX := Lib.hid ((hb.block _ (lt_of_block HX.out)).trans HX.out)
  replace HM := Lib.hid ((hb.block _ (lt_of_block HM.out)).trans HM.out)
  replace HY := Lib.hid ((hb.block _ (lt_of_block HY.out)).trans HY.out)
  replace HP := Lib.hid ((hb.block _ (lt_of_block HP.out)).trans HP.out)
  replace rM1 := rM1.below hb
  replace rM2 := rM2.below hb
  replace t2 := t2.below hb
  replace s1 := s1.below hb
  replace s2 := s2.below hb
  replace p1 := p1.below hb
  replace p2 := p2.below hb
  replace t3 := t3.below hb
  replace acc := acc.trans (hb.mono acc.size)
  have LF17 := Lib.hid (hb.size)
  clear hb t3
  go_wp2
  refine wp_region_held_drew (S := fun W' => W'.heap[W.heap.size]? = some (.cells #[.slice A1 n1 c1, .int .i64 x0, .slice B1 m1 d1, .int .i64 x1] 25 (0, 0)) ∧ W'.heap[w4.heap.size]? = some (.cells #[.slice G1 n1 g1, .int .i64 x0, .slice G2 m1 g2, .int .i64 x1] 28 (0, 0))) hmx ⟨HX.out, HY.out⟩ (fun hH => ?_)
  refine wpAnyH_take (i := 0) (v := .agg #[.slice G1 n1 g1, .int .i64 x0, .slice G2 m1 g2, .int .i64 x1]) rfl (by kernel_rfl) (by kernel_rfl) (by kernel_rfl) (fun _ _ _ h => h) (Or.inl ⟨by rfl, by intro W' hSw; have hlt := lt_of_block hSw.2; obtain ⟨k0, k1, k2, k3⟩ := cells4 hSw.2; go_simp⟩) hH ?_
  try simp only [Act.put, List.setIfInBounds_toArray, List.set_cons_zero, List.set_cons_succ]
  refine wpAnyH_take (i := 1) (v := .agg #[.slice A1 n1 c1, .int .i64 x0, .slice B1 m1 d1, .int .i64 x1]) rfl (by kernel_rfl) (by kernel_rfl) (by kernel_rfl) (fun _ _ _ h => h) (Or.inl ⟨by rfl, by intro W' hSw; have hlt := lt_of_block hSw.1; obtain ⟨k0, k1, k2, k3⟩ := cells4 hSw.1; go_simp⟩) hH ?_
  try simp only [Act.put, List.setIfInBounds_toArray, List.set_cons_zero, List.set_cons_succ]
  obtain ⟨v0, hv0⟩ : ∃ v0, v0 = w10.drew := ⟨_, rfl⟩
  rw [← hv0]
  have hb : Below w10.heap.size w10 v0 := by rw [hv0]; exact ⟨rfl, rfl, rfl, Nat.le_refl _, fun _ _ => rfl⟩
  clear hv0
  replace HX := Lib.hid ((hb.block _ (lt_of_block HX.out)).trans HX.out)
  replace HM := Lib.hid ((hb.block _ (lt_of_block HM.out)).trans HM.out)
  replace HY := Lib.hid ((hb.block _ (lt_of_block HY.out)).trans HY.out)
  replace HP := Lib.hid ((hb.block _ (lt_of_block HP.out)).trans HP.out)
  replace rM1 := rM1.below hb
  replace rM2 := rM2.below hb
  replace t2 := t2.below hb
  replace s1 := s1.below hb
  replace s2 := s2.below hb
  replace p1 := p1.below hb
  replace p2 := p2.below hb
  replace acc := acc.trans (hb.mono acc.size)
  have LF18 := Lib.hid (hb.size)
  clear hb
  refine wpAnyH_ready (rs := [2]) (by decide +kernel) (by simp) (AllReadyH.cons rfl (fun K hK => ?_) AllReadyH.nil)
  go_simp
  refine (HTO.out _ acc hb1 hb2).mono ?_
  rintro e w11 ⟨F1, f1, F2, f2, rfl, ho1, ho2, -, hb⟩
  replace HX := Lib.hid ((hb.block _ (lt_of_block HX.out)).trans HX.out)
  replace HM := Lib.hid ((hb.block _ (lt_of_block HM.out)).trans HM.out)
  replace HY := Lib.hid ((hb.block _ (lt_of_block HY.out)).trans HY.out)
  replace HP := Lib.hid ((hb.block _ (lt_of_block HP.out)).trans HP.out)
  replace rM1 := rM1.below hb
  replace rM2 := rM2.below hb
  replace t2 := t2.below hb
  replace s1 := s1.below hb
  replace s2 := s2.below hb
  replace p1 := p1.below hb
  replace p2 := p2.below hb
  replace acc := acc.trans (hb.mono acc.size)
  have LF19 := Lib.hid (hb.size)
  have u1 := Ow.new ho1
  have u2 := Ow.new ho2
  have hEQ := same_ctl x0 x1 G1 n1 g1 F1 n1 f1 zs1 G2 m1 g2 F2 m1 f2 ys1 w11 s1.ints u1.ints hb1 hb1 s2.ints u2.ints hb2 hb2
  simp only [ctlV] at hEQ
  have HEQ := Lib.hid hEQ
  clear ho1 ho2 hb hEQ u1 u2
  go_wp2_with fail
  refine hK.out _ _ ⟨HX.out, HY.out⟩ (fun hH => ?_)
  clear hK K
  try simp only [Act.put, List.setIfInBounds_toArray, List.set_cons_zero, List.set_cons_succ]
  refine wpAnyH_ready (rs := [3]) (by decide +kernel) (by simp) (AllReadyH.cons rfl (fun K hK => ?_) AllReadyH.nil)
  go_simp
  refine HEQ.out.mono ?_
  rintro e w12 ⟨rfl, hb⟩
  clear HEQ
  replace HX := Lib.hid ((hb.block _ (lt_of_block HX.out)).trans HX.out)
  replace HM := Lib.hid ((hb.block _ (lt_of_block HM.out)).trans HM.out)
  replace HY := Lib.hid ((hb.block _ (lt_of_block HY.out)).trans HY.out)
  replace HP := Lib.hid ((hb.block _ (lt_of_block HP.out)).trans HP.out)
  replace rM1 := rM1.below hb
  replace rM2 := rM2.below hb
  replace t2 := t2.below hb
  replace s1 := s1.below hb
  replace s2 := s2.below hb
  replace p1 := p1.below hb
  replace p2 := p2.below hb
  replace acc := acc.trans (hb.mono acc.size)
  have LF20 := Lib.hid (hb.size)
  clear hb
  go_wp2_with fail
  refine hK.out _ _ ⟨HX.out, HY.out⟩ (fun hH => ?_)
  clear hK K
  try simp only [Act.put, List.setIfInBounds_toArray, List.set_cons_zero, List.set_cons_succ]
  refine wpAnyH_ready (rs := [4]) (by decide +kernel) (by simp) (AllReadyH.cons rfl (fun K hK => ?_) AllReadyH.nil)
  go_simp
  refine hK.out _ _ ⟨HX.out, HY.out⟩ (fun hH => ?_)
  clear hK K
  try simp only [Act.put, List.setIfInBounds_toArray, List.set_cons_zero, List.set_cons_succ]
  refine wpAnyH_done (by decide +kernel) ?_ _
  clear hH
  go_wp2_with fail
  refine (marked_pth _ n0 _ _ _ (1) _ _ t2 (by omega) (by omega)).mono ?_
  rintro e w13 ⟨rfl, hp⟩
  clear t2
  have l_LF1 := LF1.out
  have l_LF2 := LF2.out
  have l_LF3 := LF3.out
  have l_LF4 := LF4.out
  have l_LF5 := LF5.out
  have l_LF6 := LF6.out
  have l_LF7 := LF7.out
  have l_LF8 := LF8.out
  have l_LF9 := LF9.out
  have l_LF10 := LF10.out
  have l_LF11 := LF11.out
  have l_LF12 := LF12.out
  have l_LF13 := LF13.out
  have l_LF14 := LF14.out
  have l_LF15 := LF15.out
  have l_LF16 := LF16.out
  have l_LF17 := LF17.out
  have l_LF18 := LF18.out
  have l_LF19 := LF19.out
  have l_LF20 := LF20.out
  replace HX := Lib.hid ((hp.block _ (lt_of_block HX.out) (by first | exact .inl (by omega) | exact .inr (by omega))).trans HX.out)
  replace HM := Lib.hid ((hp.block _ (lt_of_block HM.out) (by first | exact .inl (by omega) | exact .inr (by omega))).trans HM.out)
  replace HY := Lib.hid ((hp.block _ (lt_of_block HY.out) (by first | exact .inl (by omega) | exact .inr (by omega))).trans HY.out)
  replace HP := Lib.hid ((hp.block _ (lt_of_block HP.out) (by first | exact .inl (by omega) | exact .inr (by omega))).trans HP.out)
  replace rM1 := rM1.part hp (by first | exact .inl (by omega) | exact .inr (by omega))
  replace rM2 := rM2.part hp (by first | exact .inl (by omega) | exact .inr (by omega))
  replace s1 := s1.part hp (by first | exact .inl (by omega) | exact .inr (by omega))
  replace s2 := s2.part hp (by first | exact .inl (by omega) | exact .inr (by omega))
  replace p1 := p1.part hp (by first | exact .inl (by omega) | exact .inr (by omega))
  replace p2 := p2.part hp (by first | exact .inl (by omega) | exact .inr (by omega))
  replace acc := acc.trans (hp.below (by omega) acc.size)
  clear l_LF1 l_LF2 l_LF3 l_LF4 l_LF5 l_LF6 l_LF7 l_LF8 l_LF9 l_LF10 l_LF11 l_LF12 l_LF13 l_LF14 l_LF15 l_LF16 l_LF17 l_LF18 l_LF19 l_LF20
  have LF21 := Lib.hid (hp.size)
  clear hp
  obtain ⟨k0, k1, k2, k3⟩ := cells4 HY.out
  have lt_Y := lt_of_block HY.out
  have hMK := mark_ctl x0 x1 G1 n1 g1 zs1 G2 m1 g2 _ _ (1 + n0 * 4) ys1 _ s1 s2 HAP.out hb1 hb2 (by omega)
  simp only [ctlV] at hMK
  have HMK := Lib.hid hMK
  clear hMK
  go_wp2_with fail
  refine HMK.out.mono ?_
  rintro e w14 ⟨rfl, hp⟩
  clear s1 s2 HMK HY k0 k1 k2 k3 lt_Y
  have l_LF1 := LF1.out
  have l_LF2 := LF2.out
  have l_LF3 := LF3.out
  have l_LF4 := LF4.out
  have l_LF5 := LF5.out
  have l_LF6 := LF6.out
  have l_LF7 := LF7.out
  have l_LF8 := LF8.out
  have l_LF9 := LF9.out
  have l_LF10 := LF10.out
  have l_LF11 := LF11.out
  have l_LF12 := LF12.out
  have l_LF13 := LF13.out
  have l_LF14 := LF14.out
  have l_LF15 := LF15.out
  have l_LF16 := LF16.out
  have l_LF17 := LF17.out
  have l_LF18 := LF18.out
  have l_LF19 := LF19.out
  have l_LF20 := LF20.out
  have l_LF21 := LF21.out
  replace HX := Lib.hid ((hp.block _ (lt_of_block HX.out) (by first | exact .inl (by omega) | exact .inr (by omega))).trans HX.out)
  replace HM := Lib.hid ((hp.block _ (lt_of_block HM.out) (by first | exact .inl (by omega) | exact .inr (by omega))).trans HM.out)
  replace HP := Lib.hid ((hp.block _ (lt_of_block HP.out) (by first | exact .inl (by omega) | exact .inr (by omega))).trans HP.out)
  replace rM1 := rM1.part hp (by first | exact .inl (by omega) | exact .inr (by omega))
  replace rM2 := rM2.part hp (by first | exact .inl (by omega) | exact .inr (by omega))
  replace p1 := p1.part hp (by first | exact .inl (by omega) | exact .inr (by omega))
  replace p2 := p2.part hp (by first | exact .inl (by omega) | exact .inr (by omega))
  replace acc := acc.trans (hp.below (by omega) acc.size)
  clear l_LF1 l_LF2 l_LF3 l_LF4 l_LF5 l_LF6 l_LF7 l_LF8 l_LF9 l_LF10 l_LF11 l_LF12 l_LF13 l_LF14 l_LF15 l_LF16 l_LF17 l_LF18 l_LF19 l_LF20 l_LF21
  have LF22 := Lib.hid (hp.size)
  clear hp
  obtain ⟨ka0, ka1, ka2, ka3⟩ := cells4 HP.out
  have lt_P := lt_of_block HP.out
  obtain ⟨kb0, kb1, kb2, kb3⟩ := cells4 HM.out
  have lt_M := lt_of_block HM.out
  have hEQ := same_ctl rv rl P1 P1n P1c M1 M1n M1c rs P2 P2n P2c M2 M2n M2c rn w14 p1.ints rM1.ints hb_P1 hb_M1 p2.ints rM2.ints hb_P2 hb_M2
  simp only [ctlV] at hEQ
  have HEQ := Lib.hid hEQ
  clear hEQ
  go_wp2_with fail
  refine HEQ.out.mono ?_
  rintro e w15 ⟨rfl, hb⟩
  clear HEQ ka0 ka1 ka2 ka3 lt_P kb0 kb1 kb2 kb3 lt_M
  replace HX := Lib.hid ((hb.block _ (lt_of_block HX.out)).trans HX.out)
  replace HM := Lib.hid ((hb.block _ (lt_of_block HM.out)).trans HM.out)
  replace HP := Lib.hid ((hb.block _ (lt_of_block HP.out)).trans HP.out)
  replace rM1 := rM1.below hb
  replace rM2 := rM2.below hb
  replace p1 := p1.below hb
  replace p2 := p2.below hb
  replace acc := acc.trans (hb.mono acc.size)
  have LF23 := Lib.hid (hb.size)
  clear hb
  obtain ⟨k0, k1, k2, k3⟩ := cells4 HP.out
  have lt_P := lt_of_block HP.out
  have hMK := markd_ctl rv rl P1 P1n P1c rs P2 P2n P2c _ _ (1) rn _ p1 p2 HAG.out hb_P1 hb_P2 (by omega)
  simp only [ctlV] at hMK
  have HMK := Lib.hid hMK
  clear hMK
  go_wp2_with fail
  refine HMK.out.mono ?_
  rintro e w16 ⟨rfl, pm1, pm2, hp⟩
  clear p1 p2 HMK k0 k1 k2 k3 lt_P
  have l_LF1 := LF1.out
  have l_LF2 := LF2.out
  have l_LF3 := LF3.out
  have l_LF4 := LF4.out
  have l_LF5 := LF5.out
  have l_LF6 := LF6.out
  have l_LF7 := LF7.out
  have l_LF8 := LF8.out
  have l_LF9 := LF9.out
  have l_LF10 := LF10.out
  have l_LF11 := LF11.out
  have l_LF12 := LF12.out
  have l_LF13 := LF13.out
  have l_LF14 := LF14.out
  have l_LF15 := LF15.out
  have l_LF16 := LF16.out
  have l_LF17 := LF17.out
  have l_LF18 := LF18.out
  have l_LF19 := LF19.out
  have l_LF20 := LF20.out
  have l_LF21 := LF21.out
  have l_LF22 := LF22.out
  have l_LF23 := LF23.out
  replace HX := Lib.hid ((hp.block _ (lt_of_block HX.out) (by first | exact .inl (by omega) | exact .inr (by omega))).trans HX.out)
  replace HM := Lib.hid ((hp.block _ (lt_of_block HM.out) (by first | exact .inl (by omega) | exact .inr (by omega))).trans HM.out)
  replace HP := Lib.hid ((hp.block _ (lt_of_block HP.out) (by first | exact .inl (by omega) | exact .inr (by omega))).trans HP.out)
  replace rM1 := rM1.part hp (by first | exact .inl (by omega) | exact .inr (by omega))
  replace rM2 := rM2.part hp (by first | exact .inl (by omega) | exact .inr (by omega))
  replace acc := acc.trans (hp.below (by omega) acc.size)
  clear l_LF1 l_LF2 l_LF3 l_LF4 l_LF5 l_LF6 l_LF7 l_LF8 l_LF9 l_LF10 l_LF11 l_LF12 l_LF13 l_LF14 l_LF15 l_LF16 l_LF17 l_LF18 l_LF19 l_LF20 l_LF21 l_LF22 l_LF23
  have LF24 := Lib.hid (hp.size)
  clear hp
  obtain ⟨k0, k1, k2, k3⟩ := cells4 HP.out
  have lt_P := lt_of_block HP.out
  have hHD := held_ctl rv rl P1 P1n P1c P2 P2n P2c (1) _ pm1.ints pm2.ints hb_P1 hb_P2 (by omega)
  simp only [ctlV] at hHD
  have HHD := Lib.hid hHD
  clear hHD
  go_wp2_with fail
  refine HHD.out.mono ?_
  rintro e w17 ⟨rfl, hb⟩
  clear HHD k0 k1 k2 k3 lt_P
  replace HX := Lib.hid ((hb.block _ (lt_of_block HX.out)).trans HX.out)
  replace HM := Lib.hid ((hb.block _ (lt_of_block HM.out)).trans HM.out)
  replace HP := Lib.hid ((hb.block _ (lt_of_block HP.out)).trans HP.out)
  replace rM1 := rM1.below hb
  replace rM2 := rM2.below hb
  replace pm1 := pm1.below hb
  replace pm2 := pm2.below hb
  replace acc := acc.trans (hb.mono acc.size)
  have LF25 := Lib.hid (hb.size)
  clear hb
  go_wp2
  refine wp_region_held_drew (S := fun W' => W'.heap[W.heap.size]? = some (.cells #[.slice A1 n1 c1, .int .i64 x0, .slice B1 m1 d1, .int .i64 x1] 25 (0, 0))) hmx HX.out (fun hH => ?_)
  refine wpAnyH_take (i := 0) (v := .slice A0 n0 c0) rfl (by kernel_rfl) (by kernel_rfl) (by kernel_rfl) (fun _ _ _ h => h) (Or.inl ⟨by rfl, by intro W' hSw; go_simp⟩) hH ?_
  try simp only [Act.put, List.setIfInBounds_toArray, List.set_cons_zero, List.set_cons_succ]
  refine wpAnyH_take (i := 2) (v := .agg #[.slice A1 n1 c1, .int .i64 x0, .slice B1 m1 d1, .int .i64 x1]) rfl (by kernel_rfl) (by kernel_rfl) (by kernel_rfl) (fun _ _ _ h => h) (Or.inl ⟨by rfl, by intro W' hSw; have hlt := lt_of_block hSw; obtain ⟨k0, k1, k2, k3⟩ := cells4 hSw; go_simp⟩) hH ?_
  try simp only [Act.put, List.setIfInBounds_toArray, List.set_cons_zero, List.set_cons_succ]
  refine wpAnyH_take (i := 4) (v := .int .i64 a4) rfl (by kernel_rfl) (by kernel_rfl) (by kernel_rfl) (fun _ _ _ h => h) (Or.inl ⟨by rfl, by intro W' hSw; go_simp⟩) hH ?_
  try simp only [Act.put, List.setIfInBounds_toArray, List.set_cons_zero, List.set_cons_succ]
  obtain ⟨v0, hv0⟩ : ∃ v0, v0 = w17.drew := ⟨_, rfl⟩
  rw [← hv0]
  have hb : Below w17.heap.size w17 v0 := by rw [hv0]; exact ⟨rfl, rfl, rfl, Nat.le_refl _, fun _ _ => rfl⟩
  clear hv0
  replace HX := Lib.hid ((hb.block _ (lt_of_block HX.out)).trans HX.out)
  replace HM := Lib.hid ((hb.block _ (lt_of_block HM.out)).trans HM.out)
  replace HP := Lib.hid ((hb.block _ (lt_of_block HP.out)).trans HP.out)
  replace rM1 := rM1.below hb
  replace rM2 := rM2.below hb
  replace pm1 := pm1.below hb
  replace pm2 := pm2.below hb
  replace acc := acc.trans (hb.mono acc.size)
  have LF26 := Lib.hid (hb.size)
  clear hb
  refine tail_thenCutFor (Q := ?tailQH) (F := fun w g S1 N1 s1 S2 N2 s2 => w.heap[W.heap.size]? = some (.cells #[.slice A1 n1 c1, .int .i64 x0, .slice B1 m1 d1, .int .i64 x1] 25 (0, 0)) ∧ w.heap[gM]? = some (.cells #[.slice M1 M1n M1c, .int .i64 rv, .slice M2 M2n M2c, .int .i64 rl] 28 (0, 0)) ∧ w.heap[w6.heap.size]? = some (.cells #[.slice P1 P1n P1c, .int .i64 rv, .slice P2 P2n P2c, .int .i64 rl] 28 (0, 0)) ∧ w.heap[g]? = some (.cells #[.slice S1 N1 s1, .int .i64 rv, .slice S2 N2 s2, .int .i64 rl] 28 (0, 0)) ∧ v0.heap.size ≤ g ∧ Ow .i64 3 w W.heap.size w.heap.size (.slice S1 N1 s1) rs ∧ Ow .i64 3 w W.heap.size w.heap.size (.slice S2 N2 s2) rn ∧ N1 = rs.length ∧ N2 = rn.length ∧ Ow .i64 3 w W.heap.size w2.heap.size (.slice M1 M1n M1c) (rs) ∧ Ow .i64 3 w W.heap.size w2.heap.size (.slice M2 M2n M2c) (rn) ∧ Ow .i64 3 w w5.heap.size w6.heap.size (.slice P1 P1n P1c) (marks .i64 1 P1n) ∧ Ow .i64 3 w w5.heap.size w6.heap.size (.slice P2 P2n P2c) (marks .i64 (1 + P1n) P2n) ∧ Below W.heap.size W w) (fun TAIL => ?_) ?_
  rotate_left
  · skip
    refine wpAnyH_ready (rs := [1, 9]) (by decide +kernel) (by simp) (AllReadyH.cons rfl (fun K hK => ?_) (AllReadyH.cons rfl (fun K hK => ?_) AllReadyH.nil))
    · skip
      go_simp
      refine (to_pthECutFor A0 n0 c0 W.heap.size zs0 _ (hi0.keep fun _ hp => acc.cell hp) acc.size (by omega)).mono ?_
      rintro e v1 ⟨T, rfl, ho, hb⟩
      replace HX := Lib.hid ((hb.block _ (lt_of_block HX.out)).trans HX.out)
      replace HM := Lib.hid ((hb.block _ (lt_of_block HM.out)).trans HM.out)
      replace HP := Lib.hid ((hb.block _ (lt_of_block HP.out)).trans HP.out)
      replace rM1 := rM1.below hb
      replace rM2 := rM2.below hb
      replace pm1 := pm1.below hb
      replace pm2 := pm2.below hb
      replace acc := acc.trans (hb.mono acc.size)
      have q1 := OwP.new ho
      clear ho
      have hv0k : v0.heap.size ≤ v1.heap.size := hb.size
      clear hb
      go_wp2_with fail
      refine hK.out _ _ HX.out (fun hH => ?_)
      clear hK K
      try simp only [Act.put, List.setIfInBounds_toArray, List.set_cons_zero, List.set_cons_succ]
      refine wpAnyH_ready (rs := [3, 9]) (by decide +kernel) (by simp) (AllReadyH.cons rfl (fun K hK => ?_) (AllReadyH.cons rfl (fun K hK => ?_) AllReadyH.nil))
      · skip
        go_simp
        refine (HTO.out _ acc hb1 hb2).mono ?_
        rintro e v2 ⟨E1, e1, E2, e2, rfl, ho1, ho2, -, hb⟩
        replace HX := Lib.hid ((hb.block _ (lt_of_block HX.out)).trans HX.out)
        replace HM := Lib.hid ((hb.block _ (lt_of_block HM.out)).trans HM.out)
        replace HP := Lib.hid ((hb.block _ (lt_of_block HP.out)).trans HP.out)
        replace rM1 := rM1.below hb
        replace rM2 := rM2.below hb
        replace pm1 := pm1.below hb
        replace pm2 := pm2.below hb
        replace q1 := q1.below hb
        replace acc := acc.trans (hb.mono acc.size)
        have q2 := Ow.new ho1
        have q3 := Ow.new ho2
        clear ho1 ho2
        replace hv0k := Nat.le_trans hv0k hb.size
        clear hb
        go_wp2_with fail
        refine hK.out _ _ HX.out (fun hH => ?_)
        clear hK K
        try simp only [Act.put, List.setIfInBounds_toArray, List.set_cons_zero, List.set_cons_succ]
        refine wpAnyH_ready (rs := [5, 9]) (by decide +kernel) (by simp) (AllReadyH.cons rfl (fun K hK => ?_) (AllReadyH.cons rfl (fun K hK => ?_) AllReadyH.nil))
        · skip
          have hSP := impl_CutFor (w := v2) (x := ⟨zs1, x0, ys1, x1⟩) ⟨q1.sl (by omega) hw0, q2.sl (by omega) hw1, hb1, q3.sl (by omega) hw2, hb2, b0, b1⟩ a4 wa4 (HV0.out.below acc (Nat.le_refl _)) (HV1.out.below acc (Nat.le_refl _)) (HV2.out.below acc (Nat.le_refl _))
          rw [HR.out] at hSP
          simp only [ctlV] at hSP
          go_simp
          refine hSP.mono ?_
          rintro e v3 ⟨v, rfl, ⟨S1, N1, s1, S2, N2, s2, rfl, ho1, ho2, -⟩, hb⟩
          simp only [ctlV]
          clear hSP q1 q2 q3
          have rS1l := acc.size
          have rS2l := acc.size
          have hN1 : Hid (N1 = rs.length) := Lib.hid ho1.len
          have hN2 : Hid (N2 = rn.length) := Lib.hid ho2.len
          replace HX := Lib.hid ((hb.block _ (lt_of_block HX.out)).trans HX.out)
          replace HM := Lib.hid ((hb.block _ (lt_of_block HM.out)).trans HM.out)
          replace HP := Lib.hid ((hb.block _ (lt_of_block HP.out)).trans HP.out)
          replace rM1 := rM1.below hb
          replace rM2 := rM2.below hb
          replace pm1 := pm1.below hb
          replace pm2 := pm2.below hb
          replace acc := acc.trans (hb.mono acc.size)
          have rS1 := Ow.new ho1
          have rS2 := Ow.new ho2
          clear ho1 ho2
          replace hv0k := Nat.le_trans hv0k hb.size
          clear hb
          go_wp2_with fail
          refine hK.out _ _ HX.out (fun hH => ?_)
          clear hK K
          try simp only [Act.put, List.setIfInBounds_toArray, List.set_cons_zero, List.set_cons_succ]
          refine wpAnyH_take (i := 6) (v := .tuple #[.agg #[.slice S1 N1 s1, .int .i64 rv, .slice S2 N2 s2, .int .i64 rl], .bool rb]) rfl (by kernel_rfl) (by kernel_rfl) (by kernel_rfl) (fun _ _ _ h => h) (Or.inl ⟨by rfl, by intro W' hSw; go_simp⟩) hH ?_
          try simp only [Act.put, List.setIfInBounds_toArray, List.set_cons_zero, List.set_cons_succ]
          refine wpAnyH_take (i := 7) (v := .agg #[.slice S1 N1 s1, .int .i64 rv, .slice S2 N2 s2, .int .i64 rl]) rfl (by kernel_rfl) (by kernel_rfl) (by kernel_rfl) (fun _ _ _ h => h) (Or.inl ⟨by rfl, by intro W' hSw; go_simp⟩) hH ?_
          try simp only [Act.put, List.setIfInBounds_toArray, List.set_cons_zero, List.set_cons_succ]
          refine wpAnyH_take (i := 8) (v := .bool rb) rfl (by kernel_rfl) (by kernel_rfl) (by kernel_rfl) (fun _ _ _ h => h) (Or.inl ⟨by rfl, by intro W' hSw; go_simp⟩) hH ?_
          try simp only [Act.put, List.setIfInBounds_toArray, List.set_cons_zero, List.set_cons_succ]
          refine wpAnyH_ready (rs := [9]) (by decide +kernel) (by simp) (AllReadyH.cons rfl (fun K hK => ?_) AllReadyH.nil)
          go_simp
          obtain ⟨g, hgd⟩ : ∃ g, g = v3.heap.size := ⟨_, rfl⟩
          obtain ⟨v4, hv⟩ : ∃ v, v = v3.alloc (.cells #[.slice none 0 0, .int .i64 0, .slice none 0 0, .int .i64 0] 28) := ⟨_, rfl⟩
          obtain ⟨hz, -, hb⟩ := one_block hv
          rw [← hv, ← hgd]
          rw [← hgd] at hz
          have HZ := Lib.hid hz
          clear hz hv
          have ng_X := lt_of_block HX.out
          rw [← hgd] at ng_X
          have ng_M := lt_of_block HM.out
          rw [← hgd] at ng_M
          have ng_P := lt_of_block HP.out
          rw [← hgd] at ng_P
          have ng_rM1 : ∀ i, (Value.slice M1 M1n M1c).ownBlock = some i → i ≠ g := fun i e => by have := rM1.lt i e; have := rM1.top; omega
          have ng_rM2 : ∀ i, (Value.slice M2 M2n M2c).ownBlock = some i → i ≠ g := fun i e => by have := rM2.lt i e; have := rM2.top; omega
          have ng_pm1 : ∀ i, (Value.slice P1 P1n P1c).ownBlock = some i → i ≠ g := fun i e => by have := pm1.lt i e; have := pm1.top; omega
          have ng_pm2 : ∀ i, (Value.slice P2 P2n P2c).ownBlock = some i → i ≠ g := fun i e => by have := pm2.lt i e; have := pm2.top; omega
          have ng_rS1 : ∀ i, (Value.slice S1 N1 s1).ownBlock = some i → i ≠ g := fun i e => by have := rS1.lt i e; have := rS1.top; omega
          have ng_rS2 : ∀ i, (Value.slice S2 N2 s2).ownBlock = some i → i ≠ g := fun i e => by have := rS2.lt i e; have := rS2.top; omega
          replace HX := Lib.hid ((hb.block _ (lt_of_block HX.out)).trans HX.out)
          replace HM := Lib.hid ((hb.block _ (lt_of_block HM.out)).trans HM.out)
          replace HP := Lib.hid ((hb.block _ (lt_of_block HP.out)).trans HP.out)
          replace rM1 := rM1.below hb
          replace rM2 := rM2.below hb
          replace pm1 := pm1.below hb
          replace pm2 := pm2.below hb
          replace rS1 := rS1.below hb
          replace rS2 := rS2.below hb
          replace acc := acc.trans (hb.mono acc.size)
          have hg0 : v0.heap.size ≤ g := by rw [hgd]; exact hv0k
          replace hv0k := Nat.le_trans hv0k hb.size
          clear hb hgd
          refine hK.out _ _ HX.out (fun hH => ?_)
          clear hK K
          try simp only [Act.put, List.setIfInBounds_toArray, List.set_cons_zero, List.set_cons_succ]
          refine wpAnyH_ready (rs := [10]) (by decide +kernel) (by simp) (AllReadyH.cons rfl (fun K hK => ?_) AllReadyH.nil)
          obtain ⟨z0, z1, z2, z3⟩ := cells4 HZ.out
          have fz : ∀ j, v4.frozen? ⟨g, j, none⟩ = false := fun j => frozen_of_row _ _ j _ _ HZ.out
          have lg := lt_of_block HZ.out
          go_simp
          obtain ⟨vS, hvS⟩ : ∃ vS, vS = ((((v4.setCell ⟨g, 0, none⟩ (.slice S1 N1 s1)).setCell ⟨g, 1, none⟩ (.int .i64 rv)).setCell ⟨g, 2, none⟩ (.slice S2 N2 s2)).setCell ⟨g, 3, none⟩ (.int .i64 rl)) := ⟨_, rfl⟩
          replace HX : Hid (vS.heap[W.heap.size]? = some (.cells #[.slice A1 n1 c1, .int .i64 x0, .slice B1 m1 d1, .int .i64 x1] 25 (0, 0))) := Lib.hid (by rw [hvS]; exact unstored4 HX.out (by have := ng_X; omega))
          replace HM : Hid (vS.heap[gM]? = some (.cells #[.slice M1 M1n M1c, .int .i64 rv, .slice M2 M2n M2c, .int .i64 rl] 28 (0, 0))) := Lib.hid (by rw [hvS]; exact unstored4 HM.out (by have := ng_M; omega))
          replace HP : Hid (vS.heap[w6.heap.size]? = some (.cells #[.slice P1 P1n P1c, .int .i64 rv, .slice P2 P2n P2c, .int .i64 rl] 28 (0, 0))) := Lib.hid (by rw [hvS]; exact unstored4 HP.out (by have := ng_P; omega))
          have hZS : vS.heap[g]? = some (.cells #[.slice S1 N1 s1, .int .i64 rv, .slice S2 N2 s2, .int .i64 rl] 28 (0, 0)) := by rw [hvS]; exact stored4 HZ.out
          have aS : Below W.heap.size W vS := by rw [hvS]; exact below_set4 _ _ _ _ acc (by have := ng_X; omega)
          replace rM1 := (ow_set4CutFor (y1 := .slice S1 N1 s1) (y2 := .int .i64 rv) (y3 := .slice S2 N2 s2) (y4 := .int .i64 rl) rM1 (fun i e => ng_rM1 i e))
          rw [← hvS] at rM1
          replace rM2 := (ow_set4CutFor (y1 := .slice S1 N1 s1) (y2 := .int .i64 rv) (y3 := .slice S2 N2 s2) (y4 := .int .i64 rl) rM2 (fun i e => ng_rM2 i e))
          rw [← hvS] at rM2
          replace pm1 := (ow_set4CutFor (y1 := .slice S1 N1 s1) (y2 := .int .i64 rv) (y3 := .slice S2 N2 s2) (y4 := .int .i64 rl) pm1 (fun i e => ng_pm1 i e))
          rw [← hvS] at pm1
          replace pm2 := (ow_set4CutFor (y1 := .slice S1 N1 s1) (y2 := .int .i64 rv) (y3 := .slice S2 N2 s2) (y4 := .int .i64 rl) pm2 (fun i e => ng_pm2 i e))
          rw [← hvS] at pm2
          replace rS1 := (ow_set4CutFor (y1 := .slice S1 N1 s1) (y2 := .int .i64 rv) (y3 := .slice S2 N2 s2) (y4 := .int .i64 rl) rS1 (fun i e => ng_rS1 i e))
          rw [← hvS] at rS1
          replace rS2 := (ow_set4CutFor (y1 := .slice S1 N1 s1) (y2 := .int .i64 rv) (y3 := .slice S2 N2 s2) (y4 := .int .i64 rl) rS2 (fun i e => ng_rS2 i e))
          rw [← hvS] at rS2
          rw [← hvS]
          clear hvS z0 z1 z2 z3 fz
          refine hK.out _ _ HX.out (fun hH => ?_)
          clear hK K
          try simp only [Act.put, List.setIfInBounds_toArray, List.set_cons_zero, List.set_cons_succ]
          refine wpAnyH_ready (rs := [11]) (by decide +kernel) (by simp) (AllReadyH.cons rfl (fun K hK => ?_) AllReadyH.nil)
          go_simp
          refine hK.out _ _ HX.out (fun hH => ?_)
          clear hK K
          try simp only [Act.put, List.setIfInBounds_toArray, List.set_cons_zero, List.set_cons_succ]
          refine wpAnyH_done (by decide +kernel) ?_ _
          exact TAIL vS g T E1 e1 E2 e2 S1 N1 s1 S2 N2 s2 ⟨HX.out, HM.out, HP.out, hZS, hg0, Ow.new (rS1.own.mono rS1l), Ow.new (rS2.own.mono rS2l), hN1.out, hN2.out, rM1, rM2, pm1, pm2, aS⟩
        · skip
          go_simp
          obtain ⟨g, hgd⟩ : ∃ g, g = v2.heap.size := ⟨_, rfl⟩
          obtain ⟨v3, hv⟩ : ∃ v, v = v2.alloc (.cells #[.slice none 0 0, .int .i64 0, .slice none 0 0, .int .i64 0] 28) := ⟨_, rfl⟩
          obtain ⟨hz, -, hb⟩ := one_block hv
          rw [← hv, ← hgd]
          rw [← hgd] at hz
          have HZ := Lib.hid hz
          clear hz hv
          have ng_X := lt_of_block HX.out
          rw [← hgd] at ng_X
          have ng_M := lt_of_block HM.out
          rw [← hgd] at ng_M
          have ng_P := lt_of_block HP.out
          rw [← hgd] at ng_P
          have ng_rM1 : ∀ i, (Value.slice M1 M1n M1c).ownBlock = some i → i ≠ g := fun i e => by have := rM1.lt i e; have := rM1.top; omega
          have ng_rM2 : ∀ i, (Value.slice M2 M2n M2c).ownBlock = some i → i ≠ g := fun i e => by have := rM2.lt i e; have := rM2.top; omega
          have ng_pm1 : ∀ i, (Value.slice P1 P1n P1c).ownBlock = some i → i ≠ g := fun i e => by have := pm1.lt i e; have := pm1.top; omega
          have ng_pm2 : ∀ i, (Value.slice P2 P2n P2c).ownBlock = some i → i ≠ g := fun i e => by have := pm2.lt i e; have := pm2.top; omega
          replace HX := Lib.hid ((hb.block _ (lt_of_block HX.out)).trans HX.out)
          replace HM := Lib.hid ((hb.block _ (lt_of_block HM.out)).trans HM.out)
          replace HP := Lib.hid ((hb.block _ (lt_of_block HP.out)).trans HP.out)
          replace rM1 := rM1.below hb
          replace rM2 := rM2.below hb
          replace pm1 := pm1.below hb
          replace pm2 := pm2.below hb
          replace q1 := q1.below hb
          replace q2 := q2.below hb
          replace q3 := q3.below hb
          replace acc := acc.trans (hb.mono acc.size)
          have hg0 : v0.heap.size ≤ g := by rw [hgd]; exact hv0k
          replace hv0k := Nat.le_trans hv0k hb.size
          clear hb hgd
          refine hK.out _ _ HX.out (fun hH => ?_)
          clear hK K
          try simp only [Act.put, List.setIfInBounds_toArray, List.set_cons_zero, List.set_cons_succ]
          refine wpAnyH_ready (rs := [5]) (by decide +kernel) (by simp) (AllReadyH.cons rfl (fun K hK => ?_) AllReadyH.nil)
          have hSP := impl_CutFor (w := v3) (x := ⟨zs1, x0, ys1, x1⟩) ⟨q1.sl (by omega) hw0, q2.sl (by omega) hw1, hb1, q3.sl (by omega) hw2, hb2, b0, b1⟩ a4 wa4 (HV0.out.below acc (Nat.le_refl _)) (HV1.out.below acc (Nat.le_refl _)) (HV2.out.below acc (Nat.le_refl _))
          rw [HR.out] at hSP
          simp only [ctlV] at hSP
          go_simp
          refine hSP.mono ?_
          rintro e v4 ⟨v, rfl, ⟨S1, N1, s1, S2, N2, s2, rfl, ho1, ho2, -⟩, hb⟩
          simp only [ctlV]
          clear hSP q1 q2 q3
          have ng_rS1 : ∀ i, (Value.slice S1 N1 s1).ownBlock = some i → i ≠ g := fun i e => by have := (ho1.block i e).1; have := lt_of_block HZ.out; omega
          have ng_rS2 : ∀ i, (Value.slice S2 N2 s2).ownBlock = some i → i ≠ g := fun i e => by have := (ho2.block i e).1; have := lt_of_block HZ.out; omega
          have rS1l := acc.size
          have rS2l := acc.size
          have hN1 : Hid (N1 = rs.length) := Lib.hid ho1.len
          have hN2 : Hid (N2 = rn.length) := Lib.hid ho2.len
          replace HX := Lib.hid ((hb.block _ (lt_of_block HX.out)).trans HX.out)
          replace HM := Lib.hid ((hb.block _ (lt_of_block HM.out)).trans HM.out)
          replace HP := Lib.hid ((hb.block _ (lt_of_block HP.out)).trans HP.out)
          replace HZ := Lib.hid ((hb.block _ (lt_of_block HZ.out)).trans HZ.out)
          replace rM1 := rM1.below hb
          replace rM2 := rM2.below hb
          replace pm1 := pm1.below hb
          replace pm2 := pm2.below hb
          replace acc := acc.trans (hb.mono acc.size)
          have rS1 := Ow.new ho1
          have rS2 := Ow.new ho2
          clear ho1 ho2
          replace hv0k := Nat.le_trans hv0k hb.size
          clear hb
          go_wp2_with fail
          refine hK.out _ _ HX.out (fun hH => ?_)
          clear hK K
          try simp only [Act.put, List.setIfInBounds_toArray, List.set_cons_zero, List.set_cons_succ]
          refine wpAnyH_take (i := 6) (v := .tuple #[.agg #[.slice S1 N1 s1, .int .i64 rv, .slice S2 N2 s2, .int .i64 rl], .bool rb]) rfl (by kernel_rfl) (by kernel_rfl) (by kernel_rfl) (fun _ _ _ h => h) (Or.inl ⟨by rfl, by intro W' hSw; go_simp⟩) hH ?_
          try simp only [Act.put, List.setIfInBounds_toArray, List.set_cons_zero, List.set_cons_succ]
          refine wpAnyH_take (i := 7) (v := .agg #[.slice S1 N1 s1, .int .i64 rv, .slice S2 N2 s2, .int .i64 rl]) rfl (by kernel_rfl) (by kernel_rfl) (by kernel_rfl) (fun _ _ _ h => h) (Or.inl ⟨by rfl, by intro W' hSw; go_simp⟩) hH ?_
          try simp only [Act.put, List.setIfInBounds_toArray, List.set_cons_zero, List.set_cons_succ]
          refine wpAnyH_take (i := 8) (v := .bool rb) rfl (by kernel_rfl) (by kernel_rfl) (by kernel_rfl) (fun _ _ _ h => h) (Or.inl ⟨by rfl, by intro W' hSw; go_simp⟩) hH ?_
          try simp only [Act.put, List.setIfInBounds_toArray, List.set_cons_zero, List.set_cons_succ]
          refine wpAnyH_ready (rs := [10]) (by decide +kernel) (by simp) (AllReadyH.cons rfl (fun K hK => ?_) AllReadyH.nil)
          obtain ⟨z0, z1, z2, z3⟩ := cells4 HZ.out
          have fz : ∀ j, v4.frozen? ⟨g, j, none⟩ = false := fun j => frozen_of_row _ _ j _ _ HZ.out
          have lg := lt_of_block HZ.out
          go_simp
          obtain ⟨vS, hvS⟩ : ∃ vS, vS = ((((v4.setCell ⟨g, 0, none⟩ (.slice S1 N1 s1)).setCell ⟨g, 1, none⟩ (.int .i64 rv)).setCell ⟨g, 2, none⟩ (.slice S2 N2 s2)).setCell ⟨g, 3, none⟩ (.int .i64 rl)) := ⟨_, rfl⟩
          replace HX : Hid (vS.heap[W.heap.size]? = some (.cells #[.slice A1 n1 c1, .int .i64 x0, .slice B1 m1 d1, .int .i64 x1] 25 (0, 0))) := Lib.hid (by rw [hvS]; exact unstored4 HX.out (by have := ng_X; omega))
          replace HM : Hid (vS.heap[gM]? = some (.cells #[.slice M1 M1n M1c, .int .i64 rv, .slice M2 M2n M2c, .int .i64 rl] 28 (0, 0))) := Lib.hid (by rw [hvS]; exact unstored4 HM.out (by have := ng_M; omega))
          replace HP : Hid (vS.heap[w6.heap.size]? = some (.cells #[.slice P1 P1n P1c, .int .i64 rv, .slice P2 P2n P2c, .int .i64 rl] 28 (0, 0))) := Lib.hid (by rw [hvS]; exact unstored4 HP.out (by have := ng_P; omega))
          have hZS : vS.heap[g]? = some (.cells #[.slice S1 N1 s1, .int .i64 rv, .slice S2 N2 s2, .int .i64 rl] 28 (0, 0)) := by rw [hvS]; exact stored4 HZ.out
          have aS : Below W.heap.size W vS := by rw [hvS]; exact below_set4 _ _ _ _ acc (by have := ng_X; omega)
          replace rM1 := (ow_set4CutFor (y1 := .slice S1 N1 s1) (y2 := .int .i64 rv) (y3 := .slice S2 N2 s2) (y4 := .int .i64 rl) rM1 (fun i e => ng_rM1 i e))
          rw [← hvS] at rM1
          replace rM2 := (ow_set4CutFor (y1 := .slice S1 N1 s1) (y2 := .int .i64 rv) (y3 := .slice S2 N2 s2) (y4 := .int .i64 rl) rM2 (fun i e => ng_rM2 i e))
          rw [← hvS] at rM2
          replace pm1 := (ow_set4CutFor (y1 := .slice S1 N1 s1) (y2 := .int .i64 rv) (y3 := .slice S2 N2 s2) (y4 := .int .i64 rl) pm1 (fun i e => ng_pm1 i e))
          rw [← hvS] at pm1
          replace pm2 := (ow_set4CutFor (y1 := .slice S1 N1 s1) (y2 := .int .i64 rv) (y3 := .slice S2 N2 s2) (y4 := .int .i64 rl) pm2 (fun i e => ng_pm2 i e))
          rw [← hvS] at pm2
          replace rS1 := (ow_set4CutFor (y1 := .slice S1 N1 s1) (y2 := .int .i64 rv) (y3 := .slice S2 N2 s2) (y4 := .int .i64 rl) rS1 (fun i e => ng_rS1 i e))
          rw [← hvS] at rS1
          replace rS2 := (ow_set4CutFor (y1 := .slice S1 N1 s1) (y2 := .int .i64 rv) (y3 := .slice S2 N2 s2) (y4 := .int .i64 rl) rS2 (fun i e => ng_rS2 i e))
          rw [← hvS] at rS2
          rw [← hvS]
          clear hvS z0 z1 z2 z3 fz
          refine hK.out _ _ HX.out (fun hH => ?_)
          clear hK K
          try simp only [Act.put, List.setIfInBounds_toArray, List.set_cons_zero, List.set_cons_succ]
          refine wpAnyH_ready (rs := [11]) (by decide +kernel) (by simp) (AllReadyH.cons rfl (fun K hK => ?_) AllReadyH.nil)
          go_simp
          refine hK.out _ _ HX.out (fun hH => ?_)
          clear hK K
          try simp only [Act.put, List.setIfInBounds_toArray, List.set_cons_zero, List.set_cons_succ]
          refine wpAnyH_done (by decide +kernel) ?_ _
          exact TAIL vS g T E1 e1 E2 e2 S1 N1 s1 S2 N2 s2 ⟨HX.out, HM.out, HP.out, hZS, hg0, Ow.new (rS1.own.mono rS1l), Ow.new (rS2.own.mono rS2l), hN1.out, hN2.out, rM1, rM2, pm1, pm2, aS⟩
      · skip
        go_simp
        obtain ⟨g, hgd⟩ : ∃ g, g = v1.heap.size := ⟨_, rfl⟩
        obtain ⟨v2, hv⟩ : ∃ v, v = v1.alloc (.cells #[.slice none 0 0, .int .i64 0, .slice none 0 0, .int .i64 0] 28) := ⟨_, rfl⟩
        obtain ⟨hz, -, hb⟩ := one_block hv
        rw [← hv, ← hgd]
        rw [← hgd] at hz
        have HZ := Lib.hid hz
        clear hz hv
        have ng_X := lt_of_block HX.out
        rw [← hgd] at ng_X
        have ng_M := lt_of_block HM.out
        rw [← hgd] at ng_M
        have ng_P := lt_of_block HP.out
        rw [← hgd] at ng_P
        have ng_rM1 : ∀ i, (Value.slice M1 M1n M1c).ownBlock = some i → i ≠ g := fun i e => by have := rM1.lt i e; have := rM1.top; omega
        have ng_rM2 : ∀ i, (Value.slice M2 M2n M2c).ownBlock = some i → i ≠ g := fun i e => by have := rM2.lt i e; have := rM2.top; omega
        have ng_pm1 : ∀ i, (Value.slice P1 P1n P1c).ownBlock = some i → i ≠ g := fun i e => by have := pm1.lt i e; have := pm1.top; omega
        have ng_pm2 : ∀ i, (Value.slice P2 P2n P2c).ownBlock = some i → i ≠ g := fun i e => by have := pm2.lt i e; have := pm2.top; omega
        replace HX := Lib.hid ((hb.block _ (lt_of_block HX.out)).trans HX.out)
        replace HM := Lib.hid ((hb.block _ (lt_of_block HM.out)).trans HM.out)
        replace HP := Lib.hid ((hb.block _ (lt_of_block HP.out)).trans HP.out)
        replace rM1 := rM1.below hb
        replace rM2 := rM2.below hb
        replace pm1 := pm1.below hb
        replace pm2 := pm2.below hb
        replace q1 := q1.below hb
        replace acc := acc.trans (hb.mono acc.size)
        have hg0 : v0.heap.size ≤ g := by rw [hgd]; exact hv0k
        replace hv0k := Nat.le_trans hv0k hb.size
        clear hb hgd
        refine hK.out _ _ HX.out (fun hH => ?_)
        clear hK K
        try simp only [Act.put, List.setIfInBounds_toArray, List.set_cons_zero, List.set_cons_succ]
        refine wpAnyH_ready (rs := [3]) (by decide +kernel) (by simp) (AllReadyH.cons rfl (fun K hK => ?_) AllReadyH.nil)
        go_simp
        refine (HTO.out _ acc hb1 hb2).mono ?_
        rintro e v3 ⟨E1, e1, E2, e2, rfl, ho1, ho2, -, hb⟩
        replace HX := Lib.hid ((hb.block _ (lt_of_block HX.out)).trans HX.out)
        replace HM := Lib.hid ((hb.block _ (lt_of_block HM.out)).trans HM.out)
        replace HP := Lib.hid ((hb.block _ (lt_of_block HP.out)).trans HP.out)
        replace HZ := Lib.hid ((hb.block _ (lt_of_block HZ.out)).trans HZ.out)
        replace rM1 := rM1.below hb
        replace rM2 := rM2.below hb
        replace pm1 := pm1.below hb
        replace pm2 := pm2.below hb
        replace q1 := q1.below hb
        replace acc := acc.trans (hb.mono acc.size)
        have q2 := Ow.new ho1
        have q3 := Ow.new ho2
        clear ho1 ho2
        replace hv0k := Nat.le_trans hv0k hb.size
        clear hb
        go_wp2_with fail
        refine hK.out _ _ HX.out (fun hH => ?_)
        clear hK K
        try simp only [Act.put, List.setIfInBounds_toArray, List.set_cons_zero, List.set_cons_succ]
        refine wpAnyH_ready (rs := [5]) (by decide +kernel) (by simp) (AllReadyH.cons rfl (fun K hK => ?_) AllReadyH.nil)
        have hSP := impl_CutFor (w := v3) (x := ⟨zs1, x0, ys1, x1⟩) ⟨q1.sl (by omega) hw0, q2.sl (by omega) hw1, hb1, q3.sl (by omega) hw2, hb2, b0, b1⟩ a4 wa4 (HV0.out.below acc (Nat.le_refl _)) (HV1.out.below acc (Nat.le_refl _)) (HV2.out.below acc (Nat.le_refl _))
        rw [HR.out] at hSP
        simp only [ctlV] at hSP
        go_simp
        refine hSP.mono ?_
        rintro e v4 ⟨v, rfl, ⟨S1, N1, s1, S2, N2, s2, rfl, ho1, ho2, -⟩, hb⟩
        simp only [ctlV]
        clear hSP q1 q2 q3
        have ng_rS1 : ∀ i, (Value.slice S1 N1 s1).ownBlock = some i → i ≠ g := fun i e => by have := (ho1.block i e).1; have := lt_of_block HZ.out; omega
        have ng_rS2 : ∀ i, (Value.slice S2 N2 s2).ownBlock = some i → i ≠ g := fun i e => by have := (ho2.block i e).1; have := lt_of_block HZ.out; omega
        have rS1l := acc.size
        have rS2l := acc.size
        have hN1 : Hid (N1 = rs.length) := Lib.hid ho1.len
        have hN2 : Hid (N2 = rn.length) := Lib.hid ho2.len
        replace HX := Lib.hid ((hb.block _ (lt_of_block HX.out)).trans HX.out)
        replace HM := Lib.hid ((hb.block _ (lt_of_block HM.out)).trans HM.out)
        replace HP := Lib.hid ((hb.block _ (lt_of_block HP.out)).trans HP.out)
        replace HZ := Lib.hid ((hb.block _ (lt_of_block HZ.out)).trans HZ.out)
        replace rM1 := rM1.below hb
        replace rM2 := rM2.below hb
        replace pm1 := pm1.below hb
        replace pm2 := pm2.below hb
        replace acc := acc.trans (hb.mono acc.size)
        have rS1 := Ow.new ho1
        have rS2 := Ow.new ho2
        clear ho1 ho2
        replace hv0k := Nat.le_trans hv0k hb.size
        clear hb
        go_wp2_with fail
        refine hK.out _ _ HX.out (fun hH => ?_)
        clear hK K
        try simp only [Act.put, List.setIfInBounds_toArray, List.set_cons_zero, List.set_cons_succ]
        refine wpAnyH_take (i := 6) (v := .tuple #[.agg #[.slice S1 N1 s1, .int .i64 rv, .slice S2 N2 s2, .int .i64 rl], .bool rb]) rfl (by kernel_rfl) (by kernel_rfl) (by kernel_rfl) (fun _ _ _ h => h) (Or.inl ⟨by rfl, by intro W' hSw; go_simp⟩) hH ?_
        try simp only [Act.put, List.setIfInBounds_toArray, List.set_cons_zero, List.set_cons_succ]
        refine wpAnyH_take (i := 7) (v := .agg #[.slice S1 N1 s1, .int .i64 rv, .slice S2 N2 s2, .int .i64 rl]) rfl (by kernel_rfl) (by kernel_rfl) (by kernel_rfl) (fun _ _ _ h => h) (Or.inl ⟨by rfl, by intro W' hSw; go_simp⟩) hH ?_
        try simp only [Act.put, List.setIfInBounds_toArray, List.set_cons_zero, List.set_cons_succ]
        refine wpAnyH_take (i := 8) (v := .bool rb) rfl (by kernel_rfl) (by kernel_rfl) (by kernel_rfl) (fun _ _ _ h => h) (Or.inl ⟨by rfl, by intro W' hSw; go_simp⟩) hH ?_
        try simp only [Act.put, List.setIfInBounds_toArray, List.set_cons_zero, List.set_cons_succ]
        refine wpAnyH_ready (rs := [10]) (by decide +kernel) (by simp) (AllReadyH.cons rfl (fun K hK => ?_) AllReadyH.nil)
        obtain ⟨z0, z1, z2, z3⟩ := cells4 HZ.out
        have fz : ∀ j, v4.frozen? ⟨g, j, none⟩ = false := fun j => frozen_of_row _ _ j _ _ HZ.out
        have lg := lt_of_block HZ.out
        go_simp
        obtain ⟨vS, hvS⟩ : ∃ vS, vS = ((((v4.setCell ⟨g, 0, none⟩ (.slice S1 N1 s1)).setCell ⟨g, 1, none⟩ (.int .i64 rv)).setCell ⟨g, 2, none⟩ (.slice S2 N2 s2)).setCell ⟨g, 3, none⟩ (.int .i64 rl)) := ⟨_, rfl⟩
        replace HX : Hid (vS.heap[W.heap.size]? = some (.cells #[.slice A1 n1 c1, .int .i64 x0, .slice B1 m1 d1, .int .i64 x1] 25 (0, 0))) := Lib.hid (by rw [hvS]; exact unstored4 HX.out (by have := ng_X; omega))
        replace HM : Hid (vS.heap[gM]? = some (.cells #[.slice M1 M1n M1c, .int .i64 rv, .slice M2 M2n M2c, .int .i64 rl] 28 (0, 0))) := Lib.hid (by rw [hvS]; exact unstored4 HM.out (by have := ng_M; omega))
        replace HP : Hid (vS.heap[w6.heap.size]? = some (.cells #[.slice P1 P1n P1c, .int .i64 rv, .slice P2 P2n P2c, .int .i64 rl] 28 (0, 0))) := Lib.hid (by rw [hvS]; exact unstored4 HP.out (by have := ng_P; omega))
        have hZS : vS.heap[g]? = some (.cells #[.slice S1 N1 s1, .int .i64 rv, .slice S2 N2 s2, .int .i64 rl] 28 (0, 0)) := by rw [hvS]; exact stored4 HZ.out
        have aS : Below W.heap.size W vS := by rw [hvS]; exact below_set4 _ _ _ _ acc (by have := ng_X; omega)
        replace rM1 := (ow_set4CutFor (y1 := .slice S1 N1 s1) (y2 := .int .i64 rv) (y3 := .slice S2 N2 s2) (y4 := .int .i64 rl) rM1 (fun i e => ng_rM1 i e))
        rw [← hvS] at rM1
        replace rM2 := (ow_set4CutFor (y1 := .slice S1 N1 s1) (y2 := .int .i64 rv) (y3 := .slice S2 N2 s2) (y4 := .int .i64 rl) rM2 (fun i e => ng_rM2 i e))
        rw [← hvS] at rM2
        replace pm1 := (ow_set4CutFor (y1 := .slice S1 N1 s1) (y2 := .int .i64 rv) (y3 := .slice S2 N2 s2) (y4 := .int .i64 rl) pm1 (fun i e => ng_pm1 i e))
        rw [← hvS] at pm1
        replace pm2 := (ow_set4CutFor (y1 := .slice S1 N1 s1) (y2 := .int .i64 rv) (y3 := .slice S2 N2 s2) (y4 := .int .i64 rl) pm2 (fun i e => ng_pm2 i e))
        rw [← hvS] at pm2
        replace rS1 := (ow_set4CutFor (y1 := .slice S1 N1 s1) (y2 := .int .i64 rv) (y3 := .slice S2 N2 s2) (y4 := .int .i64 rl) rS1 (fun i e => ng_rS1 i e))
        rw [← hvS] at rS1
        replace rS2 := (ow_set4CutFor (y1 := .slice S1 N1 s1) (y2 := .int .i64 rv) (y3 := .slice S2 N2 s2) (y4 := .int .i64 rl) rS2 (fun i e => ng_rS2 i e))
        rw [← hvS] at rS2
        rw [← hvS]
        clear hvS z0 z1 z2 z3 fz
        refine hK.out _ _ HX.out (fun hH => ?_)
        clear hK K
        try simp only [Act.put, List.setIfInBounds_toArray, List.set_cons_zero, List.set_cons_succ]
        refine wpAnyH_ready (rs := [11]) (by decide +kernel) (by simp) (AllReadyH.cons rfl (fun K hK => ?_) AllReadyH.nil)
        go_simp
        refine hK.out _ _ HX.out (fun hH => ?_)
        clear hK K
        try simp only [Act.put, List.setIfInBounds_toArray, List.set_cons_zero, List.set_cons_succ]
        refine wpAnyH_done (by decide +kernel) ?_ _
        exact TAIL vS g T E1 e1 E2 e2 S1 N1 s1 S2 N2 s2 ⟨HX.out, HM.out, HP.out, hZS, hg0, Ow.new (rS1.own.mono rS1l), Ow.new (rS2.own.mono rS2l), hN1.out, hN2.out, rM1, rM2, pm1, pm2, aS⟩
    · skip
      go_simp
      obtain ⟨g, hgd⟩ : ∃ g, g = v0.heap.size := ⟨_, rfl⟩
      obtain ⟨v1, hv⟩ : ∃ v, v = v0.alloc (.cells #[.slice none 0 0, .int .i64 0, .slice none 0 0, .int .i64 0] 28) := ⟨_, rfl⟩
      obtain ⟨hz, -, hb⟩ := one_block hv
      rw [← hv, ← hgd]
      rw [← hgd] at hz
      have HZ := Lib.hid hz
      clear hz hv
      have ng_X := lt_of_block HX.out
      rw [← hgd] at ng_X
      have ng_M := lt_of_block HM.out
      rw [← hgd] at ng_M
      have ng_P := lt_of_block HP.out
      rw [← hgd] at ng_P
      have ng_rM1 : ∀ i, (Value.slice M1 M1n M1c).ownBlock = some i → i ≠ g := fun i e => by have := rM1.lt i e; have := rM1.top; omega
      have ng_rM2 : ∀ i, (Value.slice M2 M2n M2c).ownBlock = some i → i ≠ g := fun i e => by have := rM2.lt i e; have := rM2.top; omega
      have ng_pm1 : ∀ i, (Value.slice P1 P1n P1c).ownBlock = some i → i ≠ g := fun i e => by have := pm1.lt i e; have := pm1.top; omega
      have ng_pm2 : ∀ i, (Value.slice P2 P2n P2c).ownBlock = some i → i ≠ g := fun i e => by have := pm2.lt i e; have := pm2.top; omega
      replace HX := Lib.hid ((hb.block _ (lt_of_block HX.out)).trans HX.out)
      replace HM := Lib.hid ((hb.block _ (lt_of_block HM.out)).trans HM.out)
      replace HP := Lib.hid ((hb.block _ (lt_of_block HP.out)).trans HP.out)
      replace rM1 := rM1.below hb
      replace rM2 := rM2.below hb
      replace pm1 := pm1.below hb
      replace pm2 := pm2.below hb
      replace acc := acc.trans (hb.mono acc.size)
      have hg0 : v0.heap.size ≤ g := by omega
      have hv0k : v0.heap.size ≤ v1.heap.size := hb.size
      clear hb hgd
      refine hK.out _ _ HX.out (fun hH => ?_)
      clear hK K
      try simp only [Act.put, List.setIfInBounds_toArray, List.set_cons_zero, List.set_cons_succ]
      refine wpAnyH_ready (rs := [1]) (by decide +kernel) (by simp) (AllReadyH.cons rfl (fun K hK => ?_) AllReadyH.nil)
      go_simp
      refine (to_pthECutFor A0 n0 c0 W.heap.size zs0 _ (hi0.keep fun _ hp => acc.cell hp) acc.size (by omega)).mono ?_
      rintro e v2 ⟨T, rfl, ho, hb⟩
      replace HX := Lib.hid ((hb.block _ (lt_of_block HX.out)).trans HX.out)
      replace HM := Lib.hid ((hb.block _ (lt_of_block HM.out)).trans HM.out)
      replace HP := Lib.hid ((hb.block _ (lt_of_block HP.out)).trans HP.out)
      replace HZ := Lib.hid ((hb.block _ (lt_of_block HZ.out)).trans HZ.out)
      replace rM1 := rM1.below hb
      replace rM2 := rM2.below hb
      replace pm1 := pm1.below hb
      replace pm2 := pm2.below hb
      replace acc := acc.trans (hb.mono acc.size)
      have q1 := OwP.new ho
      clear ho
      replace hv0k := Nat.le_trans hv0k hb.size
      clear hb
      go_wp2_with fail
      refine hK.out _ _ HX.out (fun hH => ?_)
      clear hK K
      try simp only [Act.put, List.setIfInBounds_toArray, List.set_cons_zero, List.set_cons_succ]
      refine wpAnyH_ready (rs := [3]) (by decide +kernel) (by simp) (AllReadyH.cons rfl (fun K hK => ?_) AllReadyH.nil)
      go_simp
      refine (HTO.out _ acc hb1 hb2).mono ?_
      rintro e v3 ⟨E1, e1, E2, e2, rfl, ho1, ho2, -, hb⟩
      replace HX := Lib.hid ((hb.block _ (lt_of_block HX.out)).trans HX.out)
      replace HM := Lib.hid ((hb.block _ (lt_of_block HM.out)).trans HM.out)
      replace HP := Lib.hid ((hb.block _ (lt_of_block HP.out)).trans HP.out)
      replace HZ := Lib.hid ((hb.block _ (lt_of_block HZ.out)).trans HZ.out)
      replace rM1 := rM1.below hb
      replace rM2 := rM2.below hb
      replace pm1 := pm1.below hb
      replace pm2 := pm2.below hb
      replace q1 := q1.below hb
      replace acc := acc.trans (hb.mono acc.size)
      have q2 := Ow.new ho1
      have q3 := Ow.new ho2
      clear ho1 ho2
      replace hv0k := Nat.le_trans hv0k hb.size
      clear hb
      go_wp2_with fail
      refine hK.out _ _ HX.out (fun hH => ?_)
      clear hK K
      try simp only [Act.put, List.setIfInBounds_toArray, List.set_cons_zero, List.set_cons_succ]
      refine wpAnyH_ready (rs := [5]) (by decide +kernel) (by simp) (AllReadyH.cons rfl (fun K hK => ?_) AllReadyH.nil)
      have hSP := impl_CutFor (w := v3) (x := ⟨zs1, x0, ys1, x1⟩) ⟨q1.sl (by omega) hw0, q2.sl (by omega) hw1, hb1, q3.sl (by omega) hw2, hb2, b0, b1⟩ a4 wa4 (HV0.out.below acc (Nat.le_refl _)) (HV1.out.below acc (Nat.le_refl _)) (HV2.out.below acc (Nat.le_refl _))
      rw [HR.out] at hSP
      simp only [ctlV] at hSP
      go_simp
      refine hSP.mono ?_
      rintro e v4 ⟨v, rfl, ⟨S1, N1, s1, S2, N2, s2, rfl, ho1, ho2, -⟩, hb⟩
      simp only [ctlV]
      clear hSP q1 q2 q3
      have ng_rS1 : ∀ i, (Value.slice S1 N1 s1).ownBlock = some i → i ≠ g := fun i e => by have := (ho1.block i e).1; have := lt_of_block HZ.out; omega
      have ng_rS2 : ∀ i, (Value.slice S2 N2 s2).ownBlock = some i → i ≠ g := fun i e => by have := (ho2.block i e).1; have := lt_of_block HZ.out; omega
      have rS1l := acc.size
      have rS2l := acc.size
      have hN1 : Hid (N1 = rs.length) := Lib.hid ho1.len
      have hN2 : Hid (N2 = rn.length) := Lib.hid ho2.len
      replace HX := Lib.hid ((hb.block _ (lt_of_block HX.out)).trans HX.out)
      replace HM := Lib.hid ((hb.block _ (lt_of_block HM.out)).trans HM.out)
      replace HP := Lib.hid ((hb.block _ (lt_of_block HP.out)).trans HP.out)
      replace HZ := Lib.hid ((hb.block _ (lt_of_block HZ.out)).trans HZ.out)
      replace rM1 := rM1.below hb
      replace rM2 := rM2.below hb
      replace pm1 := pm1.below hb
      replace pm2 := pm2.below hb
      replace acc := acc.trans (hb.mono acc.size)
      have rS1 := Ow.new ho1
      have rS2 := Ow.new ho2
      clear ho1 ho2
      replace hv0k := Nat.le_trans hv0k hb.size
      clear hb
      go_wp2_with fail
      refine hK.out _ _ HX.out (fun hH => ?_)
      clear hK K
      try simp only [Act.put, List.setIfInBounds_toArray, List.set_cons_zero, List.set_cons_succ]
      refine wpAnyH_take (i := 6) (v := .tuple #[.agg #[.slice S1 N1 s1, .int .i64 rv, .slice S2 N2 s2, .int .i64 rl], .bool rb]) rfl (by kernel_rfl) (by kernel_rfl) (by kernel_rfl) (fun _ _ _ h => h) (Or.inl ⟨by rfl, by intro W' hSw; go_simp⟩) hH ?_
      try simp only [Act.put, List.setIfInBounds_toArray, List.set_cons_zero, List.set_cons_succ]
      refine wpAnyH_take (i := 7) (v := .agg #[.slice S1 N1 s1, .int .i64 rv, .slice S2 N2 s2, .int .i64 rl]) rfl (by kernel_rfl) (by kernel_rfl) (by kernel_rfl) (fun _ _ _ h => h) (Or.inl ⟨by rfl, by intro W' hSw; go_simp⟩) hH ?_
      try simp only [Act.put, List.setIfInBounds_toArray, List.set_cons_zero, List.set_cons_succ]
      refine wpAnyH_take (i := 8) (v := .bool rb) rfl (by kernel_rfl) (by kernel_rfl) (by kernel_rfl) (fun _ _ _ h => h) (Or.inl ⟨by rfl, by intro W' hSw; go_simp⟩) hH ?_
      try simp only [Act.put, List.setIfInBounds_toArray, List.set_cons_zero, List.set_cons_succ]
      refine wpAnyH_ready (rs := [10]) (by decide +kernel) (by simp) (AllReadyH.cons rfl (fun K hK => ?_) AllReadyH.nil)
      obtain ⟨z0, z1, z2, z3⟩ := cells4 HZ.out
      have fz : ∀ j, v4.frozen? ⟨g, j, none⟩ = false := fun j => frozen_of_row _ _ j _ _ HZ.out
      have lg := lt_of_block HZ.out
      go_simp
      obtain ⟨vS, hvS⟩ : ∃ vS, vS = ((((v4.setCell ⟨g, 0, none⟩ (.slice S1 N1 s1)).setCell ⟨g, 1, none⟩ (.int .i64 rv)).setCell ⟨g, 2, none⟩ (.slice S2 N2 s2)).setCell ⟨g, 3, none⟩ (.int .i64 rl)) := ⟨_, rfl⟩
      replace HX : Hid (vS.heap[W.heap.size]? = some (.cells #[.slice A1 n1 c1, .int .i64 x0, .slice B1 m1 d1, .int .i64 x1] 25 (0, 0))) := Lib.hid (by rw [hvS]; exact unstored4 HX.out (by have := ng_X; omega))
      replace HM : Hid (vS.heap[gM]? = some (.cells #[.slice M1 M1n M1c, .int .i64 rv, .slice M2 M2n M2c, .int .i64 rl] 28 (0, 0))) := Lib.hid (by rw [hvS]; exact unstored4 HM.out (by have := ng_M; omega))
      replace HP : Hid (vS.heap[w6.heap.size]? = some (.cells #[.slice P1 P1n P1c, .int .i64 rv, .slice P2 P2n P2c, .int .i64 rl] 28 (0, 0))) := Lib.hid (by rw [hvS]; exact unstored4 HP.out (by have := ng_P; omega))
      have hZS : vS.heap[g]? = some (.cells #[.slice S1 N1 s1, .int .i64 rv, .slice S2 N2 s2, .int .i64 rl] 28 (0, 0)) := by rw [hvS]; exact stored4 HZ.out
      have aS : Below W.heap.size W vS := by rw [hvS]; exact below_set4 _ _ _ _ acc (by have := ng_X; omega)
      replace rM1 := (ow_set4CutFor (y1 := .slice S1 N1 s1) (y2 := .int .i64 rv) (y3 := .slice S2 N2 s2) (y4 := .int .i64 rl) rM1 (fun i e => ng_rM1 i e))
      rw [← hvS] at rM1
      replace rM2 := (ow_set4CutFor (y1 := .slice S1 N1 s1) (y2 := .int .i64 rv) (y3 := .slice S2 N2 s2) (y4 := .int .i64 rl) rM2 (fun i e => ng_rM2 i e))
      rw [← hvS] at rM2
      replace pm1 := (ow_set4CutFor (y1 := .slice S1 N1 s1) (y2 := .int .i64 rv) (y3 := .slice S2 N2 s2) (y4 := .int .i64 rl) pm1 (fun i e => ng_pm1 i e))
      rw [← hvS] at pm1
      replace pm2 := (ow_set4CutFor (y1 := .slice S1 N1 s1) (y2 := .int .i64 rv) (y3 := .slice S2 N2 s2) (y4 := .int .i64 rl) pm2 (fun i e => ng_pm2 i e))
      rw [← hvS] at pm2
      replace rS1 := (ow_set4CutFor (y1 := .slice S1 N1 s1) (y2 := .int .i64 rv) (y3 := .slice S2 N2 s2) (y4 := .int .i64 rl) rS1 (fun i e => ng_rS1 i e))
      rw [← hvS] at rS1
      replace rS2 := (ow_set4CutFor (y1 := .slice S1 N1 s1) (y2 := .int .i64 rv) (y3 := .slice S2 N2 s2) (y4 := .int .i64 rl) rS2 (fun i e => ng_rS2 i e))
      rw [← hvS] at rS2
      rw [← hvS]
      clear hvS z0 z1 z2 z3 fz
      refine hK.out _ _ HX.out (fun hH => ?_)
      clear hK K
      try simp only [Act.put, List.setIfInBounds_toArray, List.set_cons_zero, List.set_cons_succ]
      refine wpAnyH_ready (rs := [11]) (by decide +kernel) (by simp) (AllReadyH.cons rfl (fun K hK => ?_) AllReadyH.nil)
      go_simp
      refine hK.out _ _ HX.out (fun hH => ?_)
      clear hK K
      try simp only [Act.put, List.setIfInBounds_toArray, List.set_cons_zero, List.set_cons_succ]
      refine wpAnyH_done (by decide +kernel) ?_ _
      exact TAIL vS g T E1 e1 E2 e2 S1 N1 s1 S2 N2 s2 ⟨HX.out, HM.out, HP.out, hZS, hg0, Ow.new (rS1.own.mono rS1l), Ow.new (rS2.own.mono rS2l), hN1.out, hN2.out, rM1, rM2, pm1, pm2, aS⟩
  intro w18 gH TH EH1 eH1 EH2 eH2 H1 H1n H1c H2 H2n H2c hF
  obtain ⟨fX, fM, fP, fN, hg, rH1, rH2, hN1, hN2, t_rM1, t_rM2, t_pm1, t_pm2, ac⟩ := hF
  have HX' := Lib.hid fX
  clear HX fX
  have HX := HX'
  clear HX'
  have HM' := Lib.hid fM
  clear HM fM
  have HM := HM'
  clear HM'
  have HP' := Lib.hid fP
  clear HP fP
  have HP := HP'
  clear HP'
  have HH := Lib.hid fN
  have lgw := lt_of_block fN
  clear fN
  clear rM1
  have rM1 := t_rM1
  clear t_rM1
  clear rM2
  have rM2 := t_rM2
  clear t_rM2
  clear pm1
  have pm1 := t_pm1
  clear t_pm1
  clear pm2
  have pm2 := t_pm2
  clear t_pm2
  clear acc
  have acc := ac
  clear ac
  have LF27 := Lib.hid (hg)
  have LF28 := Lib.hid (lgw)
  have hb_H1 : H1n ≤ 1048576 := by omega
  have hb_H2 : H2n ≤ 1048576 := by omega
  have LF29 := Lib.hid (hN1)
  have LF30 := Lib.hid (hN2)
  clear hg lgw hN1 hN2
  obtain ⟨ka0, ka1, ka2, ka3⟩ := cells4 HH.out
  have lt_H := lt_of_block HH.out
  obtain ⟨kb0, kb1, kb2, kb3⟩ := cells4 HM.out
  have lt_M := lt_of_block HM.out
  have hEQ := same_ctl rv rl H1 H1n H1c M1 M1n M1c rs H2 H2n H2c M2 M2n M2c rn w18 rH1.ints rM1.ints hb_H1 hb_M1 rH2.ints rM2.ints hb_H2 hb_M2
  simp only [ctlV] at hEQ
  have HEQ := Lib.hid hEQ
  clear hEQ
  go_wp2_with fail
  refine HEQ.out.mono ?_
  rintro e w19 ⟨rfl, hb⟩
  clear HEQ ka0 ka1 ka2 ka3 lt_H kb0 kb1 kb2 kb3 lt_M
  replace HX := Lib.hid ((hb.block _ (lt_of_block HX.out)).trans HX.out)
  replace HM := Lib.hid ((hb.block _ (lt_of_block HM.out)).trans HM.out)
  replace HP := Lib.hid ((hb.block _ (lt_of_block HP.out)).trans HP.out)
  replace HH := Lib.hid ((hb.block _ (lt_of_block HH.out)).trans HH.out)
  replace rM1 := rM1.below hb
  replace rM2 := rM2.below hb
  replace pm1 := pm1.below hb
  replace pm2 := pm2.below hb
  replace rH1 := rH1.below hb
  replace rH2 := rH2.below hb
  replace acc := acc.trans (hb.mono acc.size)
  have LF31 := Lib.hid (hb.size)
  clear hb
  obtain ⟨k0, k1, k2, k3⟩ := cells4 HP.out
  have lt_P := lt_of_block HP.out
  have hHD := held_ctl rv rl P1 P1n P1c P2 P2n P2c (1) _ pm1.ints pm2.ints hb_P1 hb_P2 (by omega)
  simp only [ctlV] at hHD
  have HHD := Lib.hid hHD
  clear hHD
  go_wp2_with fail
  refine HHD.out.mono ?_
  rintro e w20 ⟨rfl, hb⟩
  clear HHD k0 k1 k2 k3 lt_P
  replace HX := Lib.hid ((hb.block _ (lt_of_block HX.out)).trans HX.out)
  replace HM := Lib.hid ((hb.block _ (lt_of_block HM.out)).trans HM.out)
  replace HP := Lib.hid ((hb.block _ (lt_of_block HP.out)).trans HP.out)
  replace HH := Lib.hid ((hb.block _ (lt_of_block HH.out)).trans HH.out)
  replace rM1 := rM1.below hb
  replace rM2 := rM2.below hb
  replace pm1 := pm1.below hb
  replace pm2 := pm2.below hb
  replace rH1 := rH1.below hb
  replace rH2 := rH2.below hb
  replace acc := acc.trans (hb.mono acc.size)
  have LF32 := Lib.hid (hb.size)
  clear hb
  go_wp2
  go_ret
  exact ⟨rfl, acc⟩
end Go.Proofs.YtmcoeafkbpeelaaDoor
