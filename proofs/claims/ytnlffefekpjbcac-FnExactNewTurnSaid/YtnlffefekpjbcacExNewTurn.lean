/- The walk of 'FnExactNewTurn'. -/
import Derived.Test.YtnlffefekpjbcacTrnW
namespace Go.Proofs.Ytnlffefekpjbcac
open Go.RowKit
set_option linter.unusedVariables false

theorem newT_len (p a c q1 q2 : Int) (zs : List Int) (b : Bool) (h : newT p a c = (q1, q2, zs, b)) : zs.length ≤ 8 := by
  unfold newT at h
  split at h
  · rename_i e
    simp only [Bool.and_eq_true] at e
    have := inB_t e.2
    simp only [Prod.mk.injEq] at h
    rw [← h.2.2.1, List.length_replicate]
    omega
  · simp only [Prod.mk.injEq] at h
    rw [← h.2.2.1]
    simp
set_option maxHeartbeats 2000000 in
set_option maxRecDepth 100000 in
theorem walk_FnExactNewTurn (W : World) (a0 : Int) (wa0 : (Lit.int .i64 a0).wf = true) (a1 : Int) (wa1 : (Lit.int .i64 a1).wf = true) (a2 : Int) (wa2 : (Lit.int .i64 a2).wf = true) :
    Calls Try.prog 4 #[.int .i64 a0, .int .i64 a1, .int .i64 a2] W fun e w' => e = .returned (.bool true) ∧ Below W.heap.size W w' := by
  obtain ⟨q1, q2, zs, b, hr⟩ : ∃ q1 q2 zs b, newT a0 a1 a2 = (q1, q2, zs, b) := ⟨_, _, _, _, rfl⟩
  have hlen := newT_len _ _ _ _ _ _ _ hr
  obtain ⟨N, hN⟩ : ∃ N, N = zs.length := ⟨_, rfl⟩
  rw [← hN] at hlen
  have HR := Lib.hid hr
  have HN := Lib.hid hN
  have hmn : ¬ ((1 + N : Nat) : Int) < 0 := by omega
  clear hr hN
  go_enter Try.func4, Try.ntmps4
  go_wp2_with fail
  refine (spec_NewTurn a0 a1 a2 _ q1 q2 zs b HR.out).mono ?_
  rintro e w1 ⟨vs, rfl, hos, hb1⟩
  obtain ⟨As, cs, rfl⟩ := hos.sliced
  rw [← HN.out] at hos
  rw [← HN.out]
  simp only [trnV]
  have S1 := Ow.new hos
  have acc := hb1
  clear hos hb1
  obtain ⟨wB, hwB⟩ : ∃ wB, wB = w1.alloc (.cells #[.int .i64 q1, .int .i64 q2, .slice As N cs] 36) := ⟨_, rfl⟩
  obtain ⟨hs, hsz, hb⟩ := one_block hwB
  replace S1 := S1.below hb
  replace acc := acc.trans (hb.mono acc.size)
  have lts : w1.heap.size < wB.heap.size := by omega
  clear hsz hb
  go_wp2_with fail
  rw [← hwB]
  clear hwB
  have hloW := Lib.hid acc.size
  refine (impl_NewTurn a0 a1 a2 _ q1 q2 zs b HR.out).mono ?_
  rintro e w2 ⟨vg, rfl, hog, hb2⟩
  obtain ⟨Ag, cg, rfl⟩ := hog.sliced
  rw [← HN.out] at hog
  rw [← HN.out]
  simp only [trnV]
  replace hs := (hb2.block _ lts).trans hs
  have G1 := Ow.new hog
  have dSG := Lib.hid S1.top
  replace S1 := S1.below hb2
  replace acc := acc.trans (hb2.mono acc.size)
  have lto := Lib.hid lts
  replace lts := Nat.lt_of_lt_of_le lts hb2.size
  clear hog hb2
  obtain ⟨wC, hwC⟩ : ∃ wC, wC = w2.alloc (.cells #[.int .i64 q1, .int .i64 q2, .slice Ag N cg] 36) := ⟨_, rfl⟩
  obtain ⟨hg, hsz, hb⟩ := one_block hwC
  replace hs := (hb.block _ lts).trans hs
  replace S1 := S1.below hb
  replace G1 := G1.below hb
  replace acc := acc.trans (hb.mono acc.size)
  replace lts := Nat.lt_of_lt_of_le lts hb.size
  have ltg : w2.heap.size < wC.heap.size := by omega
  clear hsz hb
  have HS := Lib.hid hs
  have HG := Lib.hid hg
  obtain ⟨s0, s1, s2⟩ := cells3 hs
  obtain ⟨g0, g1, g2⟩ := cells3 hg
  subst hwC
  clear hs hg
  go_wp2_with fail
  refine (same_trn q1 q2 Ag N cg As N cs zs _ G1.ints S1.ints (by omega) (by omega)).mono ?_
  rintro e w3 ⟨rfl, hb⟩
  have hs := (hb.block _ lts).trans HS.out
  have hg := (hb.block _ ltg).trans HG.out
  replace S1 := S1.below hb
  replace G1 := G1.below hb
  replace acc := acc.trans (hb.mono acc.size)
  replace lts := Nat.lt_of_lt_of_le lts hb.size
  replace ltg := Nat.lt_of_lt_of_le ltg hb.size
  clear s0 s1 s2 g0 g1 g2 hb HS HG
  obtain ⟨s0, s1, s2⟩ := cells3 hs
  obtain ⟨g0, g1, g2⟩ := cells3 hg
  have HS := Lib.hid hs
  have HG := Lib.hid hg
  clear hs hg
  cases b
  all_goals
    go_wp2_with fail
    refine (mark_trn q1 q2 Ag N cg _ _ 1 zs _ G1 (by omega) (by omega)).mono ?_
    rintro e w4 ⟨rfl, hm, hp⟩
    have hs := (hp.block _ lts (.inl lto.out)).trans HS.out
    have hg := (hp.block _ ltg (.inr (Nat.le_refl _))).trans HG.out
    replace S1 := S1.part hp (.inl dSG.out)
    replace G1 := hm
    replace acc := acc.trans (hp.below hloW.out acc.size)
    replace lts := Nat.lt_of_lt_of_le lts hp.size
    replace ltg := Nat.lt_of_lt_of_le ltg hp.size
    clear s0 s1 s2 g0 g1 g2 hp hm HS HG
    obtain ⟨s0, s1, s2⟩ := cells3 hs
    obtain ⟨g0, g1, g2⟩ := cells3 hg
    have HS := Lib.hid hs
    have HG := Lib.hid hg
    clear hs hg
    go_wp2_with fail
    refine (held_trn q1 q2 Ag N cg _ 1 _ G1.ints (Nat.le_refl _) (by omega) (by omega)).mono ?_
    rintro e w5 ⟨rfl, hb⟩
    have hs := (hb.block _ lts).trans HS.out
    have hg := (hb.block _ ltg).trans HG.out
    replace S1 := S1.below hb
    replace G1 := G1.below hb
    replace acc := acc.trans (hb.mono acc.size)
    replace lts := Nat.lt_of_lt_of_le lts hb.size
    replace ltg := Nat.lt_of_lt_of_le ltg hb.size
    clear s0 s1 s2 g0 g1 g2 hb HS HG
    obtain ⟨s0, s1, s2⟩ := cells3 hs
    obtain ⟨g0, g1, g2⟩ := cells3 hg
    have HS := Lib.hid hs
    have HG := Lib.hid hg
    clear hs hg
    go_wp2_with fail
    refine (impl_NewTurn a0 a1 a2 _ q1 q2 zs _ HR.out).mono ?_
    rintro e w6 ⟨vh, rfl, hoh, hb⟩
    obtain ⟨Ah, ch, rfl⟩ := hoh.sliced
    rw [← HN.out] at hoh
    rw [← HN.out]
    simp only [trnV]
    have hs := (hb.block _ lts).trans HS.out
    have hg := (hb.block _ ltg).trans HG.out
    have H1 := Ow.new hoh
    replace S1 := S1.below hb
    replace G1 := G1.below hb
    replace acc := acc.trans (hb.mono acc.size)
    replace lts := Nat.lt_of_lt_of_le lts hb.size
    replace ltg := Nat.lt_of_lt_of_le ltg hb.size
    clear s0 s1 s2 g0 g1 g2 hb HS HG hoh
    obtain ⟨wD, hwD⟩ : ∃ wD, wD = w6.alloc (.cells #[.int .i64 q1, .int .i64 q2, .slice Ah N ch] 36) := ⟨_, rfl⟩
    obtain ⟨hh, hsz, hb⟩ := one_block hwD
    replace hs := (hb.block _ lts).trans hs
    replace hg := (hb.block _ ltg).trans hg
    replace S1 := S1.below hb
    replace G1 := G1.below hb
    replace H1 := H1.below hb
    replace acc := acc.trans (hb.mono acc.size)
    replace lts := Nat.lt_of_lt_of_le lts hb.size
    replace ltg := Nat.lt_of_lt_of_le ltg hb.size
    clear hsz hb
    obtain ⟨s0, s1, s2⟩ := cells3 hs
    obtain ⟨g0, g1, g2⟩ := cells3 hg
    obtain ⟨h0, h1, h2⟩ := cells3 hh
    have HS := Lib.hid hs
    have HG := Lib.hid hg
    clear hs hg hh
    subst hwD
    go_wp2_with fail
    refine (same_trn q1 q2 Ah N ch As N cs zs _ H1.ints S1.ints (by omega) (by omega)).mono ?_
    rintro e w7 ⟨rfl, hb⟩
    have hg := (hb.block _ ltg).trans HG.out
    replace G1 := G1.below hb
    replace acc := acc.trans (hb.mono acc.size)
    clear s0 s1 s2 g0 g1 g2 h0 h1 h2 hb HS HG S1 H1
    obtain ⟨g0, g1, g2⟩ := cells3 hg
    clear hg
    go_wp2_with fail
    refine (held_trn q1 q2 Ag N cg _ 1 _ G1.ints (Nat.le_refl _) (by omega) (by omega)).mono ?_
    rintro e w8 ⟨rfl, hb⟩
    replace acc := acc.trans (hb.mono acc.size)
    clear g0 g1 g2 hb
    go_wp2
    go_ret
    exact ⟨rfl, acc⟩
end Go.Proofs.Ytnlffefekpjbcac
