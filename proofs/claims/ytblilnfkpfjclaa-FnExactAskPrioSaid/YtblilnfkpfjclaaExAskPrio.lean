/- The walk of 'FnExactAskPrio' (written by genprp.py). -/
import Derived.Test.YtblilnfkpfjclaaBndlB
import Derived.Deep.RegionHeld3
set_option linter.unusedSimpArgs false
namespace Go.Proofs.Ytblilnfkpfjclaa
open Go.RowKit
set_option linter.unusedVariables false

theorem tail_thenPrp {Q : World → Nat → Option Addr → Prop} {F : World → Nat → Prop} {G : Prop} (main : (∀ w g T, F w g → Q w g T) → G) (tail : ∀ w g T, F w g → Q w g T) : G := main tail
theorem cells2p {w : World} {g : Nat} {x0 x1 : Value} {E : TypeId} {fr : Nat × Nat} (h : w.heap[g]? = some (.cells #[x0, x1] E fr)) : w.cell? ⟨g, 0, none⟩ = some x0 ∧ w.cell? ⟨g, 1, none⟩ = some x1 :=
  ⟨by rw [cell_of_row w g 0 _ E fr h]; rfl, by rw [cell_of_row w g _ _ E fr h]; rfl⟩
theorem to_pthEp (A : Option Addr) (n c B : Nat) (ps : List Pth) (w : World) (h : PthsAt w B A n ps) (hB : B ≤ w.heap.size) (hn : n ≤ 1048576) : Calls Try.prog 16 #[.slice A n c] w fun e w' => ∃ T, e = .returned (.slice T n n) ∧ w'.ownsRow w.heap.size 81 4 (.slice T n n) ps.length (pcells ps) ∧ Below w.heap.size w w' := (to_pth A n c B ps w h hB hn).mono fun e w' ⟨h1, h2, h3⟩ => ⟨_, h1, h2, h3⟩
set_option maxHeartbeats 8000000 in
set_option maxRecDepth 100000 in
theorem walk_FnExactAskPrio (W : World) (A0 : Option Addr) (n0 c0 : Nat) (zs0 : List Pth) (ha0 : PthsAt W W.heap.size A0 n0 zs0 ∧ (∀ z ∈ zs0, z.wf) ∧ n0 ≤ c0 ∧ c0 ≤ maxLen) (p1 : Pri) (wp1 : p1.wf) (a2 : Int) (wa2 : (Lit.int .i64 a2).wf = true) :
    Calls Try.prog 3 #[.slice A0 n0 c0, p1.val, .int .i64 a2] W fun e w' => e = .returned (.bool true) ∧ Below W.heap.size W w' := by
  have hm0 := Nat.le_trans ha0.2.2.1 ha0.2.2.2
  unfold maxLen at hm0
  obtain ⟨hi0, hw0, -, -⟩ := ha0
  obtain ⟨⟨ra, rb⟩, rq, hr⟩ : ∃ r rq, askP zs0 p1 a2 = (r, rq) := ⟨_, _, rfl⟩
  have HR := Lib.hid hr
  clear hr
  have hrq1 : (rq != rq) = false := by cases rq <;> rfl
  have hrq2 : (rq == rq) = true := by cases rq <;> rfl
  obtain ⟨a, b⟩ := p1
  simp only [Pri.val]
  obtain ⟨wB, hwB⟩ : ∃ wB, wB = W.alloc (.cells #[.int .i64 a, .int .i64 b] 24) := ⟨_, rfl⟩
  obtain ⟨hbx, hszb, acc⟩ := one_block hwB
  have HX := Lib.hid hbx
  have hmx : Try.prog.follows .mixedOrders = true := by kernel_rfl
  clear hbx hszb
  have HTO := Lib.hid (fun w => law_toPrio ⟨a, b⟩ w)
  simp only [Pri.val] at HTO
  go_enter Try.func3, Try.ntmps3
  go_wp2_with fail
  rw [← hwB]
  clear hwB
  refine (sz_pth _ n0 _ 1048576 _ (by omega) (by omega)).mono ?_
  rintro e w' ⟨rfl, rfl⟩
  by_cases hz0 : (n0 : Int) ≤ 1048576
  rotate_left
  · rw [if_neg hz0]
    go_wp2
    go_ret
    exact ⟨rfl, acc⟩
  rw [if_pos hz0]
  have hb0 : n0 ≤ 1048576 := by omega
  have hz1 : ¬ ((1048576 : Int) - (n0 : Int)) < 0 := by omega
  go_wp2
  refine wp_region_held_drew (S := fun W' => W'.heap[W.heap.size]? = some (.cells #[.int .i64 a, .int .i64 b] 24 (0, 0))) hmx HX.out (fun hH => ?_)
  refine wpAnyH_take (i := 0) (v := .slice A0 n0 c0) rfl (by kernel_rfl) (by kernel_rfl) (by kernel_rfl) (fun _ _ _ h => h) (Or.inl ⟨by rfl, by intro W' hSw; go_simp⟩) hH ?_
  try simp only [Act.put, List.setIfInBounds_toArray, List.set_cons_zero, List.set_cons_succ]
  refine wpAnyH_take (i := 2) (v := .agg #[.int .i64 a, .int .i64 b]) rfl (by kernel_rfl) (by kernel_rfl) (by kernel_rfl) (fun _ _ _ h => h) (Or.inl ⟨by rfl, by intro W' hSw; have hlt := lt_of_block hSw; obtain ⟨k0, k1⟩ := cells2p hSw; go_simp⟩) hH ?_
  try simp only [Act.put, List.setIfInBounds_toArray, List.set_cons_zero, List.set_cons_succ]
  refine wpAnyH_take (i := 4) (v := .int .i64 a2) rfl (by kernel_rfl) (by kernel_rfl) (by kernel_rfl) (fun _ _ _ h => h) (Or.inl ⟨by rfl, by intro W' hSw; go_simp⟩) hH ?_
  try simp only [Act.put, List.setIfInBounds_toArray, List.set_cons_zero, List.set_cons_succ]
  obtain ⟨v0, hv0⟩ : ∃ v0, v0 = wB.drew := ⟨_, rfl⟩
  rw [← hv0]
  have hb : Below wB.heap.size wB v0 := by rw [hv0]; exact ⟨rfl, rfl, rfl, Nat.le_refl _, fun _ _ => rfl⟩
  clear hv0
  replace HX := Lib.hid ((hb.block _ (lt_of_block HX.out)).trans HX.out)
  replace acc := acc.trans (hb.mono acc.size)
  clear hb
  refine tail_thenPrp (Q := ?tailQ) (F := fun w g => w.heap[W.heap.size]? = some (.cells #[.int .i64 a, .int .i64 b] 24 (0, 0)) ∧ w.heap[g]? = some (.cells #[.int .i64 ra, .int .i64 rb] 26 (0, 0)) ∧ Below W.heap.size W w) (fun TAIL => ?_) ?_
  rotate_left
  · skip
    refine wpAnyH_ready (rs := [1, 9]) (by decide +kernel) (by simp) (AllReadyH.cons rfl (fun K hK => ?_) (AllReadyH.cons rfl (fun K hK => ?_) AllReadyH.nil))
    · skip
      go_simp
      refine (to_pthEp A0 n0 c0 W.heap.size zs0 _ (hi0.keep fun _ hp => acc.cell hp) acc.size (by omega)).mono ?_
      rintro e v1 ⟨T, rfl, ho, hb⟩
      replace HX := Lib.hid ((hb.block _ (lt_of_block HX.out)).trans HX.out)
      replace acc := acc.trans (hb.mono acc.size)
      have q1 := OwP.new ho
      clear ho hb
      go_wp2_with fail
      refine hK.out _ _ HX.out (fun hH => ?_)
      clear hK K
      try simp only [Act.put, List.setIfInBounds_toArray, List.set_cons_zero, List.set_cons_succ]
      refine wpAnyH_ready (rs := [3, 9]) (by decide +kernel) (by simp) (AllReadyH.cons rfl (fun K hK => ?_) (AllReadyH.cons rfl (fun K hK => ?_) AllReadyH.nil))
      · skip
        go_simp
        refine (HTO.out _).mono ?_
        rintro e v2 ⟨rfl, hb⟩
        replace HX := Lib.hid ((hb.block _ (lt_of_block HX.out)).trans HX.out)
        replace acc := acc.trans (hb.mono acc.size)
        replace q1 := q1.below hb
        clear hb
        go_wp2_with fail
        refine hK.out _ _ HX.out (fun hH => ?_)
        clear hK K
        try simp only [Act.put, List.setIfInBounds_toArray, List.set_cons_zero, List.set_cons_succ]
        refine wpAnyH_ready (rs := [5, 9]) (by decide +kernel) (by simp) (AllReadyH.cons rfl (fun K hK => ?_) (AllReadyH.cons rfl (fun K hK => ?_) AllReadyH.nil))
        · skip
          have hSP := sp_AskPrio T n0 n0 zs0 ⟨a, b⟩ a2 v2 (q1.sl (by omega) hw0) hb0 wp1 wa2 ⟨ra, rb⟩ rq HR.out
          simp only [Pri.val] at hSP
          go_simp
          refine hSP.mono ?_
          rintro e v3 ⟨rfl, hb⟩
          clear hSP q1
          replace HX := Lib.hid ((hb.block _ (lt_of_block HX.out)).trans HX.out)
          replace acc := acc.trans (hb.mono acc.size)
          clear hb
          go_wp2_with fail
          refine hK.out _ _ HX.out (fun hH => ?_)
          clear hK K
          try simp only [Act.put, List.setIfInBounds_toArray, List.set_cons_zero, List.set_cons_succ]
          refine wpAnyH_take (i := 6) (v := .tuple #[.agg #[.int .i64 ra, .int .i64 rb], .bool rq]) rfl (by kernel_rfl) (by kernel_rfl) (by kernel_rfl) (fun _ _ _ h => h) (Or.inl ⟨by rfl, by intro W' hSw; go_simp⟩) hH ?_
          try simp only [Act.put, List.setIfInBounds_toArray, List.set_cons_zero, List.set_cons_succ]
          refine wpAnyH_take (i := 7) (v := .agg #[.int .i64 ra, .int .i64 rb]) rfl (by kernel_rfl) (by kernel_rfl) (by kernel_rfl) (fun _ _ _ h => h) (Or.inl ⟨by rfl, by intro W' hSw; go_simp⟩) hH ?_
          try simp only [Act.put, List.setIfInBounds_toArray, List.set_cons_zero, List.set_cons_succ]
          refine wpAnyH_take (i := 8) (v := .bool rq) rfl (by kernel_rfl) (by kernel_rfl) (by kernel_rfl) (fun _ _ _ h => h) (Or.inl ⟨by rfl, by intro W' hSw; go_simp⟩) hH ?_
          try simp only [Act.put, List.setIfInBounds_toArray, List.set_cons_zero, List.set_cons_succ]
          refine wpAnyH_ready (rs := [9]) (by decide +kernel) (by simp) (AllReadyH.cons rfl (fun K hK => ?_) AllReadyH.nil)
          go_simp
          obtain ⟨g, hgd⟩ : ∃ g, g = v3.heap.size := ⟨_, rfl⟩
          obtain ⟨v4, hv⟩ : ∃ v, v = v3.alloc (.cells #[.int .i64 0, .int .i64 0] 26) := ⟨_, rfl⟩
          obtain ⟨hz, -, hb⟩ := one_block hv
          rw [← hv, ← hgd]
          rw [← hgd] at hz
          have HZ := Lib.hid hz
          clear hz hv
          have ngx := lt_of_block HX.out
          rw [← hgd] at ngx
          replace HX := Lib.hid ((hb.block _ (lt_of_block HX.out)).trans HX.out)
          replace acc := acc.trans (hb.mono acc.size)
          try replace q1 := q1.below hb
          clear hb hgd
          refine hK.out _ _ HX.out (fun hH => ?_)
          clear hK K
          try simp only [Act.put, List.setIfInBounds_toArray, List.set_cons_zero, List.set_cons_succ]
          refine wpAnyH_ready (rs := [10]) (by decide +kernel) (by simp) (AllReadyH.cons rfl (fun K hK => ?_) AllReadyH.nil)
          obtain ⟨z0, z1⟩ := cells2p HZ.out
          have fz : ∀ j, v4.frozen? ⟨g, j, none⟩ = false := fun j => frozen_of_row _ _ j _ _ HZ.out
          have lg := lt_of_block HZ.out
          go_simp
          obtain ⟨vS, hvS⟩ : ∃ vS, vS = ((v4.setCell ⟨g, 0, none⟩ (.int .i64 ra)).setCell ⟨g, 1, none⟩ (.int .i64 rb)) := ⟨_, rfl⟩
          replace HX : Hid (vS.heap[W.heap.size]? = some (.cells #[.int .i64 a, .int .i64 b] 24 (0, 0))) := Lib.hid (by rw [hvS]; exact unstored2 HX.out (by omega))
          have hZS : vS.heap[g]? = some (.cells #[.int .i64 ra, .int .i64 rb] 26 (0, 0)) := by rw [hvS]; exact stored2 HZ.out
          have aS : Below W.heap.size W vS := by rw [hvS]; exact (acc.setCell (by simp only; omega) _).setCell (by simp only; omega) _
          rw [← hvS]
          clear hvS z0 z1 fz
          refine hK.out _ _ HX.out (fun hH => ?_)
          clear hK K
          try simp only [Act.put, List.setIfInBounds_toArray, List.set_cons_zero, List.set_cons_succ]
          refine wpAnyH_ready (rs := [11]) (by decide +kernel) (by simp) (AllReadyH.cons rfl (fun K hK => ?_) AllReadyH.nil)
          go_simp
          refine hK.out _ _ HX.out (fun hH => ?_)
          clear hK K
          try simp only [Act.put, List.setIfInBounds_toArray, List.set_cons_zero, List.set_cons_succ]
          refine wpAnyH_done (by decide +kernel) ?_ _
          exact TAIL vS g T ⟨HX.out, hZS, aS⟩
        · skip
          go_simp
          obtain ⟨g, hgd⟩ : ∃ g, g = v2.heap.size := ⟨_, rfl⟩
          obtain ⟨v3, hv⟩ : ∃ v, v = v2.alloc (.cells #[.int .i64 0, .int .i64 0] 26) := ⟨_, rfl⟩
          obtain ⟨hz, -, hb⟩ := one_block hv
          rw [← hv, ← hgd]
          rw [← hgd] at hz
          have HZ := Lib.hid hz
          clear hz hv
          have ngx := lt_of_block HX.out
          rw [← hgd] at ngx
          replace HX := Lib.hid ((hb.block _ (lt_of_block HX.out)).trans HX.out)
          replace acc := acc.trans (hb.mono acc.size)
          try replace q1 := q1.below hb
          clear hb hgd
          refine hK.out _ _ HX.out (fun hH => ?_)
          clear hK K
          try simp only [Act.put, List.setIfInBounds_toArray, List.set_cons_zero, List.set_cons_succ]
          refine wpAnyH_ready (rs := [5]) (by decide +kernel) (by simp) (AllReadyH.cons rfl (fun K hK => ?_) AllReadyH.nil)
          have hSP := sp_AskPrio T n0 n0 zs0 ⟨a, b⟩ a2 v3 (q1.sl (by omega) hw0) hb0 wp1 wa2 ⟨ra, rb⟩ rq HR.out
          simp only [Pri.val] at hSP
          go_simp
          refine hSP.mono ?_
          rintro e v4 ⟨rfl, hb⟩
          clear hSP q1
          replace HX := Lib.hid ((hb.block _ (lt_of_block HX.out)).trans HX.out)
          replace acc := acc.trans (hb.mono acc.size)
          replace HZ := Lib.hid ((hb.block _ (lt_of_block HZ.out)).trans HZ.out)
          clear hb
          go_wp2_with fail
          refine hK.out _ _ HX.out (fun hH => ?_)
          clear hK K
          try simp only [Act.put, List.setIfInBounds_toArray, List.set_cons_zero, List.set_cons_succ]
          refine wpAnyH_take (i := 6) (v := .tuple #[.agg #[.int .i64 ra, .int .i64 rb], .bool rq]) rfl (by kernel_rfl) (by kernel_rfl) (by kernel_rfl) (fun _ _ _ h => h) (Or.inl ⟨by rfl, by intro W' hSw; go_simp⟩) hH ?_
          try simp only [Act.put, List.setIfInBounds_toArray, List.set_cons_zero, List.set_cons_succ]
          refine wpAnyH_take (i := 7) (v := .agg #[.int .i64 ra, .int .i64 rb]) rfl (by kernel_rfl) (by kernel_rfl) (by kernel_rfl) (fun _ _ _ h => h) (Or.inl ⟨by rfl, by intro W' hSw; go_simp⟩) hH ?_
          try simp only [Act.put, List.setIfInBounds_toArray, List.set_cons_zero, List.set_cons_succ]
          refine wpAnyH_take (i := 8) (v := .bool rq) rfl (by kernel_rfl) (by kernel_rfl) (by kernel_rfl) (fun _ _ _ h => h) (Or.inl ⟨by rfl, by intro W' hSw; go_simp⟩) hH ?_
          try simp only [Act.put, List.setIfInBounds_toArray, List.set_cons_zero, List.set_cons_succ]
          refine wpAnyH_ready (rs := [10]) (by decide +kernel) (by simp) (AllReadyH.cons rfl (fun K hK => ?_) AllReadyH.nil)
          obtain ⟨z0, z1⟩ := cells2p HZ.out
          have fz : ∀ j, v4.frozen? ⟨g, j, none⟩ = false := fun j => frozen_of_row _ _ j _ _ HZ.out
          have lg := lt_of_block HZ.out
          go_simp
          obtain ⟨vS, hvS⟩ : ∃ vS, vS = ((v4.setCell ⟨g, 0, none⟩ (.int .i64 ra)).setCell ⟨g, 1, none⟩ (.int .i64 rb)) := ⟨_, rfl⟩
          replace HX : Hid (vS.heap[W.heap.size]? = some (.cells #[.int .i64 a, .int .i64 b] 24 (0, 0))) := Lib.hid (by rw [hvS]; exact unstored2 HX.out (by omega))
          have hZS : vS.heap[g]? = some (.cells #[.int .i64 ra, .int .i64 rb] 26 (0, 0)) := by rw [hvS]; exact stored2 HZ.out
          have aS : Below W.heap.size W vS := by rw [hvS]; exact (acc.setCell (by simp only; omega) _).setCell (by simp only; omega) _
          rw [← hvS]
          clear hvS z0 z1 fz
          refine hK.out _ _ HX.out (fun hH => ?_)
          clear hK K
          try simp only [Act.put, List.setIfInBounds_toArray, List.set_cons_zero, List.set_cons_succ]
          refine wpAnyH_ready (rs := [11]) (by decide +kernel) (by simp) (AllReadyH.cons rfl (fun K hK => ?_) AllReadyH.nil)
          go_simp
          refine hK.out _ _ HX.out (fun hH => ?_)
          clear hK K
          try simp only [Act.put, List.setIfInBounds_toArray, List.set_cons_zero, List.set_cons_succ]
          refine wpAnyH_done (by decide +kernel) ?_ _
          exact TAIL vS g T ⟨HX.out, hZS, aS⟩
      · skip
        go_simp
        obtain ⟨g, hgd⟩ : ∃ g, g = v1.heap.size := ⟨_, rfl⟩
        obtain ⟨v2, hv⟩ : ∃ v, v = v1.alloc (.cells #[.int .i64 0, .int .i64 0] 26) := ⟨_, rfl⟩
        obtain ⟨hz, -, hb⟩ := one_block hv
        rw [← hv, ← hgd]
        rw [← hgd] at hz
        have HZ := Lib.hid hz
        clear hz hv
        have ngx := lt_of_block HX.out
        rw [← hgd] at ngx
        replace HX := Lib.hid ((hb.block _ (lt_of_block HX.out)).trans HX.out)
        replace acc := acc.trans (hb.mono acc.size)
        try replace q1 := q1.below hb
        clear hb hgd
        refine hK.out _ _ HX.out (fun hH => ?_)
        clear hK K
        try simp only [Act.put, List.setIfInBounds_toArray, List.set_cons_zero, List.set_cons_succ]
        refine wpAnyH_ready (rs := [3]) (by decide +kernel) (by simp) (AllReadyH.cons rfl (fun K hK => ?_) AllReadyH.nil)
        go_simp
        refine (HTO.out _).mono ?_
        rintro e v3 ⟨rfl, hb⟩
        replace HX := Lib.hid ((hb.block _ (lt_of_block HX.out)).trans HX.out)
        replace acc := acc.trans (hb.mono acc.size)
        replace HZ := Lib.hid ((hb.block _ (lt_of_block HZ.out)).trans HZ.out)
        replace q1 := q1.below hb
        clear hb
        go_wp2_with fail
        refine hK.out _ _ HX.out (fun hH => ?_)
        clear hK K
        try simp only [Act.put, List.setIfInBounds_toArray, List.set_cons_zero, List.set_cons_succ]
        refine wpAnyH_ready (rs := [5]) (by decide +kernel) (by simp) (AllReadyH.cons rfl (fun K hK => ?_) AllReadyH.nil)
        have hSP := sp_AskPrio T n0 n0 zs0 ⟨a, b⟩ a2 v3 (q1.sl (by omega) hw0) hb0 wp1 wa2 ⟨ra, rb⟩ rq HR.out
        simp only [Pri.val] at hSP
        go_simp
        refine hSP.mono ?_
        rintro e v4 ⟨rfl, hb⟩
        clear hSP q1
        replace HX := Lib.hid ((hb.block _ (lt_of_block HX.out)).trans HX.out)
        replace acc := acc.trans (hb.mono acc.size)
        replace HZ := Lib.hid ((hb.block _ (lt_of_block HZ.out)).trans HZ.out)
        clear hb
        go_wp2_with fail
        refine hK.out _ _ HX.out (fun hH => ?_)
        clear hK K
        try simp only [Act.put, List.setIfInBounds_toArray, List.set_cons_zero, List.set_cons_succ]
        refine wpAnyH_take (i := 6) (v := .tuple #[.agg #[.int .i64 ra, .int .i64 rb], .bool rq]) rfl (by kernel_rfl) (by kernel_rfl) (by kernel_rfl) (fun _ _ _ h => h) (Or.inl ⟨by rfl, by intro W' hSw; go_simp⟩) hH ?_
        try simp only [Act.put, List.setIfInBounds_toArray, List.set_cons_zero, List.set_cons_succ]
        refine wpAnyH_take (i := 7) (v := .agg #[.int .i64 ra, .int .i64 rb]) rfl (by kernel_rfl) (by kernel_rfl) (by kernel_rfl) (fun _ _ _ h => h) (Or.inl ⟨by rfl, by intro W' hSw; go_simp⟩) hH ?_
        try simp only [Act.put, List.setIfInBounds_toArray, List.set_cons_zero, List.set_cons_succ]
        refine wpAnyH_take (i := 8) (v := .bool rq) rfl (by kernel_rfl) (by kernel_rfl) (by kernel_rfl) (fun _ _ _ h => h) (Or.inl ⟨by rfl, by intro W' hSw; go_simp⟩) hH ?_
        try simp only [Act.put, List.setIfInBounds_toArray, List.set_cons_zero, List.set_cons_succ]
        refine wpAnyH_ready (rs := [10]) (by decide +kernel) (by simp) (AllReadyH.cons rfl (fun K hK => ?_) AllReadyH.nil)
        obtain ⟨z0, z1⟩ := cells2p HZ.out
        have fz : ∀ j, v4.frozen? ⟨g, j, none⟩ = false := fun j => frozen_of_row _ _ j _ _ HZ.out
        have lg := lt_of_block HZ.out
        go_simp
        obtain ⟨vS, hvS⟩ : ∃ vS, vS = ((v4.setCell ⟨g, 0, none⟩ (.int .i64 ra)).setCell ⟨g, 1, none⟩ (.int .i64 rb)) := ⟨_, rfl⟩
        replace HX : Hid (vS.heap[W.heap.size]? = some (.cells #[.int .i64 a, .int .i64 b] 24 (0, 0))) := Lib.hid (by rw [hvS]; exact unstored2 HX.out (by omega))
        have hZS : vS.heap[g]? = some (.cells #[.int .i64 ra, .int .i64 rb] 26 (0, 0)) := by rw [hvS]; exact stored2 HZ.out
        have aS : Below W.heap.size W vS := by rw [hvS]; exact (acc.setCell (by simp only; omega) _).setCell (by simp only; omega) _
        rw [← hvS]
        clear hvS z0 z1 fz
        refine hK.out _ _ HX.out (fun hH => ?_)
        clear hK K
        try simp only [Act.put, List.setIfInBounds_toArray, List.set_cons_zero, List.set_cons_succ]
        refine wpAnyH_ready (rs := [11]) (by decide +kernel) (by simp) (AllReadyH.cons rfl (fun K hK => ?_) AllReadyH.nil)
        go_simp
        refine hK.out _ _ HX.out (fun hH => ?_)
        clear hK K
        try simp only [Act.put, List.setIfInBounds_toArray, List.set_cons_zero, List.set_cons_succ]
        refine wpAnyH_done (by decide +kernel) ?_ _
        exact TAIL vS g T ⟨HX.out, hZS, aS⟩
    · skip
      go_simp
      obtain ⟨g, hgd⟩ : ∃ g, g = v0.heap.size := ⟨_, rfl⟩
      obtain ⟨v1, hv⟩ : ∃ v, v = v0.alloc (.cells #[.int .i64 0, .int .i64 0] 26) := ⟨_, rfl⟩
      obtain ⟨hz, -, hb⟩ := one_block hv
      rw [← hv, ← hgd]
      rw [← hgd] at hz
      have HZ := Lib.hid hz
      clear hz hv
      have ngx := lt_of_block HX.out
      rw [← hgd] at ngx
      replace HX := Lib.hid ((hb.block _ (lt_of_block HX.out)).trans HX.out)
      replace acc := acc.trans (hb.mono acc.size)
      try replace q1 := q1.below hb
      clear hb hgd
      refine hK.out _ _ HX.out (fun hH => ?_)
      clear hK K
      try simp only [Act.put, List.setIfInBounds_toArray, List.set_cons_zero, List.set_cons_succ]
      refine wpAnyH_ready (rs := [1]) (by decide +kernel) (by simp) (AllReadyH.cons rfl (fun K hK => ?_) AllReadyH.nil)
      go_simp
      refine (to_pthEp A0 n0 c0 W.heap.size zs0 _ (hi0.keep fun _ hp => acc.cell hp) acc.size (by omega)).mono ?_
      rintro e v2 ⟨T, rfl, ho, hb⟩
      replace HX := Lib.hid ((hb.block _ (lt_of_block HX.out)).trans HX.out)
      replace acc := acc.trans (hb.mono acc.size)
      replace HZ := Lib.hid ((hb.block _ (lt_of_block HZ.out)).trans HZ.out)
      have q1 := OwP.new ho
      clear ho hb
      go_wp2_with fail
      refine hK.out _ _ HX.out (fun hH => ?_)
      clear hK K
      try simp only [Act.put, List.setIfInBounds_toArray, List.set_cons_zero, List.set_cons_succ]
      refine wpAnyH_ready (rs := [3]) (by decide +kernel) (by simp) (AllReadyH.cons rfl (fun K hK => ?_) AllReadyH.nil)
      go_simp
      refine (HTO.out _).mono ?_
      rintro e v3 ⟨rfl, hb⟩
      replace HX := Lib.hid ((hb.block _ (lt_of_block HX.out)).trans HX.out)
      replace acc := acc.trans (hb.mono acc.size)
      replace HZ := Lib.hid ((hb.block _ (lt_of_block HZ.out)).trans HZ.out)
      replace q1 := q1.below hb
      clear hb
      go_wp2_with fail
      refine hK.out _ _ HX.out (fun hH => ?_)
      clear hK K
      try simp only [Act.put, List.setIfInBounds_toArray, List.set_cons_zero, List.set_cons_succ]
      refine wpAnyH_ready (rs := [5]) (by decide +kernel) (by simp) (AllReadyH.cons rfl (fun K hK => ?_) AllReadyH.nil)
      have hSP := sp_AskPrio T n0 n0 zs0 ⟨a, b⟩ a2 v3 (q1.sl (by omega) hw0) hb0 wp1 wa2 ⟨ra, rb⟩ rq HR.out
      simp only [Pri.val] at hSP
      go_simp
      refine hSP.mono ?_
      rintro e v4 ⟨rfl, hb⟩
      clear hSP q1
      replace HX := Lib.hid ((hb.block _ (lt_of_block HX.out)).trans HX.out)
      replace acc := acc.trans (hb.mono acc.size)
      replace HZ := Lib.hid ((hb.block _ (lt_of_block HZ.out)).trans HZ.out)
      clear hb
      go_wp2_with fail
      refine hK.out _ _ HX.out (fun hH => ?_)
      clear hK K
      try simp only [Act.put, List.setIfInBounds_toArray, List.set_cons_zero, List.set_cons_succ]
      refine wpAnyH_take (i := 6) (v := .tuple #[.agg #[.int .i64 ra, .int .i64 rb], .bool rq]) rfl (by kernel_rfl) (by kernel_rfl) (by kernel_rfl) (fun _ _ _ h => h) (Or.inl ⟨by rfl, by intro W' hSw; go_simp⟩) hH ?_
      try simp only [Act.put, List.setIfInBounds_toArray, List.set_cons_zero, List.set_cons_succ]
      refine wpAnyH_take (i := 7) (v := .agg #[.int .i64 ra, .int .i64 rb]) rfl (by kernel_rfl) (by kernel_rfl) (by kernel_rfl) (fun _ _ _ h => h) (Or.inl ⟨by rfl, by intro W' hSw; go_simp⟩) hH ?_
      try simp only [Act.put, List.setIfInBounds_toArray, List.set_cons_zero, List.set_cons_succ]
      refine wpAnyH_take (i := 8) (v := .bool rq) rfl (by kernel_rfl) (by kernel_rfl) (by kernel_rfl) (fun _ _ _ h => h) (Or.inl ⟨by rfl, by intro W' hSw; go_simp⟩) hH ?_
      try simp only [Act.put, List.setIfInBounds_toArray, List.set_cons_zero, List.set_cons_succ]
      refine wpAnyH_ready (rs := [10]) (by decide +kernel) (by simp) (AllReadyH.cons rfl (fun K hK => ?_) AllReadyH.nil)
      obtain ⟨z0, z1⟩ := cells2p HZ.out
      have fz : ∀ j, v4.frozen? ⟨g, j, none⟩ = false := fun j => frozen_of_row _ _ j _ _ HZ.out
      have lg := lt_of_block HZ.out
      go_simp
      obtain ⟨vS, hvS⟩ : ∃ vS, vS = ((v4.setCell ⟨g, 0, none⟩ (.int .i64 ra)).setCell ⟨g, 1, none⟩ (.int .i64 rb)) := ⟨_, rfl⟩
      replace HX : Hid (vS.heap[W.heap.size]? = some (.cells #[.int .i64 a, .int .i64 b] 24 (0, 0))) := Lib.hid (by rw [hvS]; exact unstored2 HX.out (by omega))
      have hZS : vS.heap[g]? = some (.cells #[.int .i64 ra, .int .i64 rb] 26 (0, 0)) := by rw [hvS]; exact stored2 HZ.out
      have aS : Below W.heap.size W vS := by rw [hvS]; exact (acc.setCell (by simp only; omega) _).setCell (by simp only; omega) _
      rw [← hvS]
      clear hvS z0 z1 fz
      refine hK.out _ _ HX.out (fun hH => ?_)
      clear hK K
      try simp only [Act.put, List.setIfInBounds_toArray, List.set_cons_zero, List.set_cons_succ]
      refine wpAnyH_ready (rs := [11]) (by decide +kernel) (by simp) (AllReadyH.cons rfl (fun K hK => ?_) AllReadyH.nil)
      go_simp
      refine hK.out _ _ HX.out (fun hH => ?_)
      clear hK K
      try simp only [Act.put, List.setIfInBounds_toArray, List.set_cons_zero, List.set_cons_succ]
      refine wpAnyH_done (by decide +kernel) ?_ _
      exact TAIL vS g T ⟨HX.out, hZS, aS⟩
  intro w2 gM TM hF
  obtain ⟨fX, fM, ac⟩ := hF
  have HX' := Lib.hid fX
  clear HX fX
  have HX := HX'
  have HM := Lib.hid fM
  clear HX' fM acc
  have acc := ac
  clear ac
  go_wp2_with fail
  refine (to_pthEp A0 n0 c0 W.heap.size zs0 _ (hi0.keep fun _ hp => acc.cell hp) acc.size (by omega)).mono ?_
  rintro e w3 ⟨T2, rfl, ho, hb⟩
  replace HX := Lib.hid ((hb.block _ (lt_of_block HX.out)).trans HX.out)
  replace HM := Lib.hid ((hb.block _ (lt_of_block HM.out)).trans HM.out)
  replace acc := acc.trans (hb.mono acc.size)
  have t2 := OwP.new ho
  clear ho hb
  obtain ⟨k0, k1⟩ := cells2p HX.out
  have lk := lt_of_block HX.out
  go_wp2_with fail
  refine (HTO.out _).mono ?_
  rintro e w4 ⟨rfl, hb⟩
  clear k0 k1 lk HX
  replace HM := Lib.hid ((hb.block _ (lt_of_block HM.out)).trans HM.out)
  replace acc := acc.trans (hb.mono acc.size)
  replace t2 := t2.below hb
  have hIM := im_AskPrio T2 n0 n0 zs0 ⟨a, b⟩ a2 w4 (t2.sl (by omega) hw0) hb0 wp1 wa2 ⟨ra, rb⟩ rq HR.out
  simp only [Pri.val] at hIM
  have HIM := Lib.hid hIM
  clear hb hIM
  go_wp2_with fail
  refine HIM.out.mono ?_
  rintro e w5 ⟨rfl, hb⟩
  replace HM := Lib.hid ((hb.block _ (lt_of_block HM.out)).trans HM.out)
  replace acc := acc.trans (hb.mono acc.size)
  replace t2 := t2.below hb
  clear hb HIM
  obtain ⟨w6, hw6⟩ : ∃ w6, w6 = w5.alloc (.cells #[.int .i64 ra, .int .i64 rb] 26) := ⟨_, rfl⟩
  obtain ⟨hy, -, hb⟩ := one_block hw6
  replace HM := Lib.hid ((hb.block _ (lt_of_block HM.out)).trans HM.out)
  replace acc := acc.trans (hb.mono acc.size)
  replace t2 := t2.below hb
  have hq := HM.out
  rw [hw6] at hq
  obtain ⟨m0, m1⟩ := cells2p hq
  have lm := lt_of_block hq
  clear hy hb hq
  have hEQ := same_pri ⟨ra, rb⟩ w6
  simp only [Pri.val] at hEQ
  go_wp2_with fail
  rw [← hw6]
  clear hw6 m0 m1 lm
  refine hEQ.mono ?_
  rintro e w7 ⟨rfl, hb⟩
  replace acc := acc.trans (hb.mono acc.size)
  replace t2 := t2.below hb
  clear hb hEQ
  go_wp2_with fail
  refine (to_pthEp A0 n0 c0 W.heap.size zs0 _ (hi0.keep fun _ hp => acc.cell hp) acc.size (by omega)).mono ?_
  rintro e w8 ⟨T3, rfl, ho, hb⟩
  replace acc := acc.trans (hb.mono acc.size)
  replace t2 := t2.below hb
  have t3 := OwP.new ho
  clear ho hb
  go_wp2_with fail
  refine (eqs_pth _ _ _ zs0 _ _ _ _ t2.ints t3.ints (by omega) (by omega)).mono ?_
  rintro e w9 ⟨rfl, hb⟩
  replace acc := acc.trans (hb.mono acc.size)
  clear hb t2 t3
  go_wp2
  go_ret
  exact ⟨rfl, acc⟩
end Go.Proofs.Ytblilnfkpfjclaa
