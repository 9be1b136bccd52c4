/- The walk of 'FnExactVoteTurn' (written by genvl.py). -/
import Derived.Test.YtlpkafhapmkkfaaBndlC
import Derived.Deep.RegionHeld3
namespace Go.Proofs.Ytlpkafhapmkkfaa
open Go.RowKit
set_option linter.unusedVariables false
set_option linter.unusedSimpArgs false

set_option maxHeartbeats 8000000 in
set_option maxRecDepth 100000 in
theorem walk_FnExactVoteTurn (W : World) (A0 : Option Addr) (n0 c0 : Nat) (zs0 : List Int) (x0 x1 : Int) (ha : (IntsAt .i64 W W.heap.size A0 n0 zs0 ∧ (∀ z ∈ zs0, (Lit.int .i64 z).wf = true) ∧ n0 ≤ c0 ∧ c0 ≤ maxLen) ∧ (Lit.int .i64 x0).wf = true ∧ (Lit.int .i64 x1).wf = true) (a1 : Int) (wa1 : (Lit.int .i64 a1).wf = true) (b2 : Bool) (a3 : Int) (wa3 : (Lit.int .i64 a3).wf = true) :
    Calls Try.prog 3 #[.agg #[.int .i64 x0, .int .i64 x1, .slice A0 n0 c0], .int .i64 a1, .bool b2, .int .i64 a3] W fun e w' => e = .returned (.bool true) ∧ Below W.heap.size W w' := by
  obtain ⟨⟨hi, hw, hc1, hc2⟩, wx0, wx1⟩ := ha
  have hm := Nat.le_trans hc1 hc2
  unfold maxLen at hm
  obtain ⟨r, rb, hr⟩ : ∃ r rb, voteP x0 x1 zs0 a1 b2 a3 = (r, rb) := ⟨_, _, rfl⟩
  have HR := Lib.hid hr
  have hrb1 : (rb != rb) = false := by cases rb <;> rfl
  have hrb2 : (rb == rb) = true := by cases rb <;> rfl
  have hmn : ¬ ((1 + n0 : Nat) : Int) < 0 := by omega
  clear hr hc1 hc2
  obtain ⟨wB, hwB⟩ : ∃ wB, wB = W.alloc (.cells #[.int .i64 x0, .int .i64 x1, .slice A0 n0 c0] 24) := ⟨_, rfl⟩
  obtain ⟨hk, hsz, acc⟩ := one_block hwB
  have HB := Lib.hid hk
  have lt_B : W.heap.size < wB.heap.size := by omega
  clear hk hsz
  go_enter Try.func3, Try.ntmps3
  obtain ⟨kB0, kB1, kB2⟩ := cells3 HB.out
  have l_B := lt_of_block HB.out
  go_wp2_with fail
  rw [← hwB]
  clear hwB
  clear kB0 kB1 kB2 l_B
  refine (sz1_tur A0 n0 c0 x0 x1 1048576 _ (by omega) ⟨by omega, by omega⟩).mono ?_
  rintro e w1 ⟨rfl, hb⟩
  have os_w1 : wB.heap.size ≤ w1.heap.size := hb.size
  replace HB := Lib.hid ((hb.block _ (lt_of_block HB.out)).trans HB.out)
  replace acc := acc.trans (hb.mono acc.size)
  clear hb
  obtain ⟨kB0, kB1, kB2⟩ := cells3 HB.out
  have l_B := lt_of_block HB.out
  by_cases hz : (n0 : Int) ≤ 1048576
  rotate_left
  · rw [if_neg hz]
    go_wp2
    go_ret
    exact ⟨rfl, acc⟩
  rw [if_pos hz]
  have hb0 : n0 ≤ 1048576 := by omega
  clear kB0 kB1 kB2 l_B
  obtain ⟨kB0, kB1, kB2⟩ := cells3 HB.out
  have l_B := lt_of_block HB.out
  go_wp2_with fail
  clear kB0 kB1 kB2 l_B
  refine (law_toTurn A0 n0 c0 W.heap.size zs0 x0 x1 _ (hi.keep fun _ hp => acc.cell hp) acc.size hb0).mono ?_
  rintro e w2 ⟨pt1, rfl, ho, hb⟩
  have os_w2 : w1.heap.size ≤ w2.heap.size := hb.size
  replace HB := Lib.hid ((hb.block _ (lt_of_block HB.out)).trans HB.out)
  replace acc := acc.trans (hb.mono acc.size)
  clear hb
  have t1 := Ow.new ho
  clear ho
  obtain ⟨kB0, kB1, kB2⟩ := cells3 HB.out
  have l_B := lt_of_block HB.out
  go_wp2_with fail
  clear kB0 kB1 kB2 l_B
  refine (sp_VoteTurn (some pt1) n0 n0 zs0 x0 x1 a1 b2 a3 _ (t1.sl (by omega) hw) hb0 r rb HR.out).mono ?_
  rintro e w3 ⟨AS, cS, rfl, ho, hb⟩
  have os_w3 : w2.heap.size ≤ w3.heap.size := hb.size
  replace HB := Lib.hid ((hb.block _ (lt_of_block HB.out)).trans HB.out)
  replace t1 := t1.below hb
  replace acc := acc.trans (hb.mono acc.size)
  clear hb
  have S := Ow.new ho
  clear ho
  clear t1
  have PB := HB
  obtain ⟨w4, hbx⟩ : ∃ w', w' = w3.alloc (.cells #[.int .i64 x0, .int .i64 x1, .slice AS n0 cS] 26) := ⟨_, rfl⟩
  obtain ⟨hzb, hsz, hb⟩ := one_block hbx
  have os_w4 : w3.heap.size < w4.heap.size := by omega
  replace HB := Lib.hid ((hb.block _ (lt_of_block HB.out)).trans HB.out)
  replace S := S.below hb
  replace acc := acc.trans (hb.mono acc.size)
  have HX := Lib.hid hzb
  clear hzb hsz hb
  obtain ⟨kB0, kB1, kB2⟩ := cells3 PB.out
  have l_B := lt_of_block PB.out
  go_wp2_with fail
  rw [← hbx]
  clear hbx
  clear kB0 kB1 kB2 l_B PB
  refine (law_toTurn A0 n0 c0 W.heap.size zs0 x0 x1 _ (hi.keep fun _ hp => acc.cell hp) acc.size hb0).mono ?_
  rintro e w5 ⟨pt2, rfl, ho, hb⟩
  have os_w5 : w4.heap.size ≤ w5.heap.size := hb.size
  replace HB := Lib.hid ((hb.block _ (lt_of_block HB.out)).trans HB.out)
  replace HX := Lib.hid ((hb.block _ (lt_of_block HX.out)).trans HX.out)
  replace S := S.below hb
  replace acc := acc.trans (hb.mono acc.size)
  clear hb
  have t2 := Ow.new ho
  clear ho
  have PB := HB
  have PX := HX
  obtain ⟨w6, hbx⟩ : ∃ w', w' = w5.alloc (.cells #[.int .i64 x0, .int .i64 x1, .slice (some pt2) n0 n0] 26) := ⟨_, rfl⟩
  obtain ⟨hzb, hsz, hb⟩ := one_block hbx
  have os_w6 : w5.heap.size < w6.heap.size := by omega
  replace HB := Lib.hid ((hb.block _ (lt_of_block HB.out)).trans HB.out)
  replace HX := Lib.hid ((hb.block _ (lt_of_block HX.out)).trans HX.out)
  replace S := S.below hb
  replace t2 := t2.below hb
  replace acc := acc.trans (hb.mono acc.size)
  have HC := Lib.hid hzb
  clear hzb hsz hb
  obtain ⟨kB0, kB1, kB2⟩ := cells3 PB.out
  have l_B := lt_of_block PB.out
  obtain ⟨kX0, kX1, kX2⟩ := cells3 PX.out
  have l_X := lt_of_block PX.out
  go_wp2_with fail
  rw [← hbx]
  clear hbx
  clear kB0 kB1 kB2 l_B PB
  clear kX0 kX1 kX2 l_X PX
  refine (im_VoteTurn (some pt2) n0 n0 zs0 x0 x1 a1 b2 a3 _ (t2.sl (by omega) hw) hb0 r rb HR.out).mono ?_
  rintro e w7 ⟨AG, cG, rfl, ho, hb⟩
  have os_w7 : w6.heap.size ≤ w7.heap.size := hb.size
  replace HB := Lib.hid ((hb.block _ (lt_of_block HB.out)).trans HB.out)
  replace HX := Lib.hid ((hb.block _ (lt_of_block HX.out)).trans HX.out)
  replace HC := Lib.hid ((hb.block _ (lt_of_block HC.out)).trans HC.out)
  replace S := S.below hb
  replace t2 := t2.below hb
  replace acc := acc.trans (hb.mono acc.size)
  clear hb
  have G := Ow.new ho
  clear ho
  have PB := HB
  have PX := HX
  have PC := HC
  obtain ⟨w8, hbx⟩ : ∃ w', w' = w7.alloc (.cells #[.int .i64 x0, .int .i64 x1, .slice AG n0 cG] 26) := ⟨_, rfl⟩
  obtain ⟨hzb, hsz, hb⟩ := one_block hbx
  have os_w8 : w7.heap.size < w8.heap.size := by omega
  replace HB := Lib.hid ((hb.block _ (lt_of_block HB.out)).trans HB.out)
  replace HX := Lib.hid ((hb.block _ (lt_of_block HX.out)).trans HX.out)
  replace HC := Lib.hid ((hb.block _ (lt_of_block HC.out)).trans HC.out)
  replace S := S.below hb
  replace t2 := t2.below hb
  replace G := G.below hb
  replace acc := acc.trans (hb.mono acc.size)
  have HY := Lib.hid hzb
  clear hzb hsz hb
  obtain ⟨kB0, kB1, kB2⟩ := cells3 PB.out
  have l_B := lt_of_block PB.out
  obtain ⟨kX0, kX1, kX2⟩ := cells3 PX.out
  have l_X := lt_of_block PX.out
  obtain ⟨kC0, kC1, kC2⟩ := cells3 PC.out
  have l_C := lt_of_block PC.out
  go_wp2_with fail
  rw [← hbx]
  clear hbx
  clear kB0 kB1 kB2 l_B PB
  clear kX0 kX1 kX2 l_X PX
  clear kC0 kC1 kC2 l_C PC
  refine (same_trn x0 x1 AG n0 cG AS n0 cS r _ G.ints S.ints (by omega) (by omega)).mono ?_
  rintro e w9 ⟨rfl, hb⟩
  have os_w9 : w8.heap.size ≤ w9.heap.size := hb.size
  replace HB := Lib.hid ((hb.block _ (lt_of_block HB.out)).trans HB.out)
  replace HX := Lib.hid ((hb.block _ (lt_of_block HX.out)).trans HX.out)
  replace HC := Lib.hid ((hb.block _ (lt_of_block HC.out)).trans HC.out)
  replace HY := Lib.hid ((hb.block _ (lt_of_block HY.out)).trans HY.out)
  replace S := S.below hb
  replace t2 := t2.below hb
  replace G := G.below hb
  replace acc := acc.trans (hb.mono acc.size)
  clear hb
  obtain ⟨kB0, kB1, kB2⟩ := cells3 HB.out
  have l_B := lt_of_block HB.out
  obtain ⟨kX0, kX1, kX2⟩ := cells3 HX.out
  have l_X := lt_of_block HX.out
  obtain ⟨kC0, kC1, kC2⟩ := cells3 HC.out
  have l_C := lt_of_block HC.out
  obtain ⟨kY0, kY1, kY2⟩ := cells3 HY.out
  have l_Y := lt_of_block HY.out
  go_wp2
  go_region_held3 (fun W' => W'.cell? ⟨W.heap.size, 0, none⟩ = some (.int .i64 x0) ∧ W'.cell? ⟨W.heap.size, 1, none⟩ = some (.int .i64 x1) ∧ W'.cell? ⟨W.heap.size, 2, none⟩ = some (.slice A0 n0 c0) ∧ W'.cell? ⟨w5.heap.size, 0, none⟩ = some (.int .i64 x0) ∧ W'.cell? ⟨w5.heap.size, 1, none⟩ = some (.int .i64 x1) ∧ W'.cell? ⟨w5.heap.size, 2, none⟩ = some (.slice (some pt2) n0 n0)) (first | exact ⟨kB0, kB1, kB2, kC0, kC1, kC2⟩ | fail "keep")
    (first
      | (go_at_call 11; refine (law_toTurn A0 n0 c0 W.heap.size zs0 x0 x1 _ (by exact hi.keep fun _ hp => acc.cell hp) (by exact acc.size) hb0).mono ?_; rintro e w10 ⟨pt3, rfl, ho, hb⟩; (try simp only [heap_drew] at ho); (first | replace hb := below_undrew hb | skip); have os_w10 := hb.size; replace HB := Lib.hid ((hb.block _ (lt_of_block HB.out)).trans HB.out); replace HX := Lib.hid ((hb.block _ (lt_of_block HX.out)).trans HX.out); replace HC := Lib.hid ((hb.block _ (lt_of_block HC.out)).trans HC.out); replace HY := Lib.hid ((hb.block _ (lt_of_block HY.out)).trans HY.out); replace S := S.below hb; replace t2 := t2.below hb; replace G := G.below hb; clear kB0 kB1 kB2 l_B; clear kC0 kC1 kC2 l_C; obtain ⟨kB0, kB1, kB2⟩ := cells3 HB.out; obtain ⟨kC0, kC1, kC2⟩ := cells3 HC.out; have l_B := lt_of_block HB.out; have l_C := lt_of_block HC.out; replace acc := acc.trans (hb.mono acc.size); clear hb; have t3 := Ow.new ho; clear ho)
      | (go_at_call 13; refine (law_eqTurn (some pt2) n0 n0 _ zs0 x0 x1 (some pt3) n0 n0 _ t2.ints t3.ints (Nat.le_refl _) (by omega)).mono ?_; rintro e w11 ⟨rfl, hb⟩; (first | replace hb := below_undrew hb | skip); have os_w11 := hb.size; replace HB := Lib.hid ((hb.block _ (lt_of_block HB.out)).trans HB.out); replace HX := Lib.hid ((hb.block _ (lt_of_block HX.out)).trans HX.out); replace HC := Lib.hid ((hb.block _ (lt_of_block HC.out)).trans HC.out); replace HY := Lib.hid ((hb.block _ (lt_of_block HY.out)).trans HY.out); replace S := S.below hb; replace t2 := t2.below hb; replace G := G.below hb; replace t3 := t3.below hb; clear kB0 kB1 kB2 l_B; clear kC0 kC1 kC2 l_C; obtain ⟨kB0, kB1, kB2⟩ := cells3 HB.out; obtain ⟨kC0, kC1, kC2⟩ := cells3 HC.out; have l_B := lt_of_block HB.out; have l_C := lt_of_block HC.out; replace acc := acc.trans (hb.mono acc.size); clear hb))
  clear kB0 kB1 kB2 l_B
  clear kX0 kX1 kX2 l_X
  clear kC0 kC1 kC2 l_C
  clear kY0 kY1 kY2 l_Y
  clear t3
  obtain ⟨kB0, kB1, kB2⟩ := cells3 HB.out
  have l_B := lt_of_block HB.out
  obtain ⟨kX0, kX1, kX2⟩ := cells3 HX.out
  have l_X := lt_of_block HX.out
  obtain ⟨kC0, kC1, kC2⟩ := cells3 HC.out
  have l_C := lt_of_block HC.out
  obtain ⟨kY0, kY1, kY2⟩ := cells3 HY.out
  have l_Y := lt_of_block HY.out
  go_wp2_with fail
  clear kB0 kB1 kB2 l_B
  clear kX0 kX1 kX2 l_X
  clear kC0 kC1 kC2 l_C
  clear kY0 kY1 kY2 l_Y
  refine (mark_trn x0 x1 (some pt2) n0 (n0) _ _ 1 zs0 _ t2 (by omega) (by omega)).mono ?_
  rintro e w12 ⟨rfl, hm, hp⟩
  have os_w12 : w11.heap.size ≤ w12.heap.size := hp.size
  replace HB := Lib.hid ((hp.block _ (lt_of_block HB.out) (by first | exact .inl (by omega) | exact .inr (by omega))).trans HB.out)
  replace HX := Lib.hid ((hp.block _ (lt_of_block HX.out) (by first | exact .inl (by omega) | exact .inr (by omega))).trans HX.out)
  replace HC := Lib.hid ((hp.block _ (lt_of_block HC.out) (by first | exact .inl (by omega) | exact .inr (by omega))).trans HC.out)
  replace HY := Lib.hid ((hp.block _ (lt_of_block HY.out) (by first | exact .inl (by omega) | exact .inr (by omega))).trans HY.out)
  replace S := S.part hp (by first | exact .inl (by omega) | exact .inr (by omega))
  replace G := G.part hp (by first | exact .inl (by omega) | exact .inr (by omega))
  replace acc := acc.trans (hp.below (by omega) acc.size)
  replace t2 := hm
  clear hp hm
  obtain ⟨kB0, kB1, kB2⟩ := cells3 HB.out
  have l_B := lt_of_block HB.out
  obtain ⟨kX0, kX1, kX2⟩ := cells3 HX.out
  have l_X := lt_of_block HX.out
  obtain ⟨kC0, kC1, kC2⟩ := cells3 HC.out
  have l_C := lt_of_block HC.out
  obtain ⟨kY0, kY1, kY2⟩ := cells3 HY.out
  have l_Y := lt_of_block HY.out
  go_wp2_with fail
  clear kB0 kB1 kB2 l_B
  clear kX0 kX1 kX2 l_X
  clear kC0 kC1 kC2 l_C
  clear kY0 kY1 kY2 l_Y
  refine (same_trn x0 x1 AG n0 cG AS n0 cS r _ G.ints S.ints (by omega) (by omega)).mono ?_
  rintro e w13 ⟨rfl, hb⟩
  have os_w13 : w12.heap.size ≤ w13.heap.size := hb.size
  replace HB := Lib.hid ((hb.block _ (lt_of_block HB.out)).trans HB.out)
  replace HX := Lib.hid ((hb.block _ (lt_of_block HX.out)).trans HX.out)
  replace HC := Lib.hid ((hb.block _ (lt_of_block HC.out)).trans HC.out)
  replace HY := Lib.hid ((hb.block _ (lt_of_block HY.out)).trans HY.out)
  replace S := S.below hb
  replace t2 := t2.below hb
  replace G := G.below hb
  replace acc := acc.trans (hb.mono acc.size)
  clear hb
  obtain ⟨kB0, kB1, kB2⟩ := cells3 HB.out
  have l_B := lt_of_block HB.out
  obtain ⟨kX0, kX1, kX2⟩ := cells3 HX.out
  have l_X := lt_of_block HX.out
  obtain ⟨kC0, kC1, kC2⟩ := cells3 HC.out
  have l_C := lt_of_block HC.out
  obtain ⟨kY0, kY1, kY2⟩ := cells3 HY.out
  have l_Y := lt_of_block HY.out
  go_wp2_with fail
  clear kB0 kB1 kB2 l_B
  clear kX0 kX1 kX2 l_X
  clear kC0 kC1 kC2 l_C
  clear kY0 kY1 kY2 l_Y
  refine (mark_trn x0 x1 (AG) n0 (cG) _ _ 1 r _ G (by omega) (by omega)).mono ?_
  rintro e w14 ⟨rfl, hm, hp⟩
  have os_w14 : w13.heap.size ≤ w14.heap.size := hp.size
  replace HB := Lib.hid ((hp.block _ (lt_of_block HB.out) (by first | exact .inl (by omega) | exact .inr (by omega))).trans HB.out)
  replace HX := Lib.hid ((hp.block _ (lt_of_block HX.out) (by first | exact .inl (by omega) | exact .inr (by omega))).trans HX.out)
  replace HC := Lib.hid ((hp.block _ (lt_of_block HC.out) (by first | exact .inl (by omega) | exact .inr (by omega))).trans HC.out)
  replace HY := Lib.hid ((hp.block _ (lt_of_block HY.out) (by first | exact .inl (by omega) | exact .inr (by omega))).trans HY.out)
  replace S := S.part hp (by first | exact .inl (by omega) | exact .inr (by omega))
  replace t2 := t2.part hp (by first | exact .inl (by omega) | exact .inr (by omega))
  replace acc := acc.trans (hp.below (by omega) acc.size)
  replace G := hm
  clear hp hm
  obtain ⟨kB0, kB1, kB2⟩ := cells3 HB.out
  have l_B := lt_of_block HB.out
  obtain ⟨kX0, kX1, kX2⟩ := cells3 HX.out
  have l_X := lt_of_block HX.out
  obtain ⟨kC0, kC1, kC2⟩ := cells3 HC.out
  have l_C := lt_of_block HC.out
  obtain ⟨kY0, kY1, kY2⟩ := cells3 HY.out
  have l_Y := lt_of_block HY.out
  go_wp2_with fail
  clear kB0 kB1 kB2 l_B
  clear kX0 kX1 kX2 l_X
  clear kC0 kC1 kC2 l_C
  clear kY0 kY1 kY2 l_Y
  refine (held_trn x0 x1 AG n0 cG _ 1 _ G.ints (Nat.le_refl _) (by omega) (by omega)).mono ?_
  rintro e w15 ⟨rfl, hb⟩
  have os_w15 : w14.heap.size ≤ w15.heap.size := hb.size
  replace HB := Lib.hid ((hb.block _ (lt_of_block HB.out)).trans HB.out)
  replace HX := Lib.hid ((hb.block _ (lt_of_block HX.out)).trans HX.out)
  replace HC := Lib.hid ((hb.block _ (lt_of_block HC.out)).trans HC.out)
  replace HY := Lib.hid ((hb.block _ (lt_of_block HY.out)).trans HY.out)
  replace S := S.below hb
  replace t2 := t2.below hb
  replace G := G.below hb
  replace acc := acc.trans (hb.mono acc.size)
  clear hb
  clear t2
  obtain ⟨kB0, kB1, kB2⟩ := cells3 HB.out
  have l_B := lt_of_block HB.out
  obtain ⟨kX0, kX1, kX2⟩ := cells3 HX.out
  have l_X := lt_of_block HX.out
  obtain ⟨kC0, kC1, kC2⟩ := cells3 HC.out
  have l_C := lt_of_block HC.out
  obtain ⟨kY0, kY1, kY2⟩ := cells3 HY.out
  have l_Y := lt_of_block HY.out
  go_wp2_with fail
  clear kB0 kB1 kB2 l_B
  clear kX0 kX1 kX2 l_X
  clear kC0 kC1 kC2 l_C
  clear kY0 kY1 kY2 l_Y
  refine (law_toTurn A0 n0 c0 W.heap.size zs0 x0 x1 _ (hi.keep fun _ hp => acc.cell hp) acc.size hb0).mono ?_
  rintro e w16 ⟨pt4, rfl, ho, hb⟩
  have os_w16 : w15.heap.size ≤ w16.heap.size := hb.size
  replace HB := Lib.hid ((hb.block _ (lt_of_block HB.out)).trans HB.out)
  replace HX := Lib.hid ((hb.block _ (lt_of_block HX.out)).trans HX.out)
  replace HC := Lib.hid ((hb.block _ (lt_of_block HC.out)).trans HC.out)
  replace HY := Lib.hid ((hb.block _ (lt_of_block HY.out)).trans HY.out)
  replace S := S.below hb
  replace G := G.below hb
  replace acc := acc.trans (hb.mono acc.size)
  clear hb
  have t4 := Ow.new ho
  clear ho
  obtain ⟨kB0, kB1, kB2⟩ := cells3 HB.out
  have l_B := lt_of_block HB.out
  obtain ⟨kX0, kX1, kX2⟩ := cells3 HX.out
  have l_X := lt_of_block HX.out
  obtain ⟨kC0, kC1, kC2⟩ := cells3 HC.out
  have l_C := lt_of_block HC.out
  obtain ⟨kY0, kY1, kY2⟩ := cells3 HY.out
  have l_Y := lt_of_block HY.out
  go_wp2_with fail
  clear kB0 kB1 kB2 l_B
  clear kX0 kX1 kX2 l_X
  clear kC0 kC1 kC2 l_C
  clear kY0 kY1 kY2 l_Y
  refine (im_VoteTurn (some pt4) n0 n0 zs0 x0 x1 a1 b2 a3 _ (t4.sl (by omega) hw) hb0 r rb HR.out).mono ?_
  rintro e w17 ⟨AK, cK, rfl, ho, hb⟩
  have os_w17 : w16.heap.size ≤ w17.heap.size := hb.size
  replace HB := Lib.hid ((hb.block _ (lt_of_block HB.out)).trans HB.out)
  replace HX := Lib.hid ((hb.block _ (lt_of_block HX.out)).trans HX.out)
  replace HC := Lib.hid ((hb.block _ (lt_of_block HC.out)).trans HC.out)
  replace HY := Lib.hid ((hb.block _ (lt_of_block HY.out)).trans HY.out)
  replace S := S.below hb
  replace G := G.below hb
  replace t4 := t4.below hb
  replace acc := acc.trans (hb.mono acc.size)
  clear hb
  have K := Ow.new ho
  clear ho
  clear t4
  have PB := HB
  have PX := HX
  have PC := HC
  have PY := HY
  obtain ⟨w18, hbx⟩ : ∃ w', w' = w17.alloc (.cells #[.int .i64 x0, .int .i64 x1, .slice AK n0 cK] 26) := ⟨_, rfl⟩
  obtain ⟨hzb, hsz, hb⟩ := one_block hbx
  have os_w18 : w17.heap.size < w18.heap.size := by omega
  replace HB := Lib.hid ((hb.block _ (lt_of_block HB.out)).trans HB.out)
  replace HX := Lib.hid ((hb.block _ (lt_of_block HX.out)).trans HX.out)
  replace HC := Lib.hid ((hb.block _ (lt_of_block HC.out)).trans HC.out)
  replace HY := Lib.hid ((hb.block _ (lt_of_block HY.out)).trans HY.out)
  replace S := S.below hb
  replace G := G.below hb
  replace K := K.below hb
  replace acc := acc.trans (hb.mono acc.size)
  have HZ := Lib.hid hzb
  clear hzb hsz hb
  obtain ⟨kB0, kB1, kB2⟩ := cells3 PB.out
  have l_B := lt_of_block PB.out
  obtain ⟨kX0, kX1, kX2⟩ := cells3 PX.out
  have l_X := lt_of_block PX.out
  obtain ⟨kC0, kC1, kC2⟩ := cells3 PC.out
  have l_C := lt_of_block PC.out
  obtain ⟨kY0, kY1, kY2⟩ := cells3 PY.out
  have l_Y := lt_of_block PY.out
  go_wp2_with fail
  rw [← hbx]
  clear hbx
  clear kB0 kB1 kB2 l_B PB
  clear kX0 kX1 kX2 l_X PX
  clear kC0 kC1 kC2 l_C PC
  clear kY0 kY1 kY2 l_Y PY
  refine (same_trn x0 x1 AK n0 cK AS n0 cS r _ K.ints S.ints (by omega) (by omega)).mono ?_
  rintro e w19 ⟨rfl, hb⟩
  have os_w19 : w18.heap.size ≤ w19.heap.size := hb.size
  replace HB := Lib.hid ((hb.block _ (lt_of_block HB.out)).trans HB.out)
  replace HX := Lib.hid ((hb.block _ (lt_of_block HX.out)).trans HX.out)
  replace HC := Lib.hid ((hb.block _ (lt_of_block HC.out)).trans HC.out)
  replace HY := Lib.hid ((hb.block _ (lt_of_block HY.out)).trans HY.out)
  replace HZ := Lib.hid ((hb.block _ (lt_of_block HZ.out)).trans HZ.out)
  replace S := S.below hb
  replace G := G.below hb
  replace K := K.below hb
  replace acc := acc.trans (hb.mono acc.size)
  clear hb
  obtain ⟨kB0, kB1, kB2⟩ := cells3 HB.out
  have l_B := lt_of_block HB.out
  obtain ⟨kX0, kX1, kX2⟩ := cells3 HX.out
  have l_X := lt_of_block HX.out
  obtain ⟨kC0, kC1, kC2⟩ := cells3 HC.out
  have l_C := lt_of_block HC.out
  obtain ⟨kY0, kY1, kY2⟩ := cells3 HY.out
  have l_Y := lt_of_block HY.out
  obtain ⟨kZ0, kZ1, kZ2⟩ := cells3 HZ.out
  have l_Z := lt_of_block HZ.out
  go_wp2_with fail
  clear kB0 kB1 kB2 l_B
  clear kX0 kX1 kX2 l_X
  clear kC0 kC1 kC2 l_C
  clear kY0 kY1 kY2 l_Y
  clear kZ0 kZ1 kZ2 l_Z
  refine (held_trn x0 x1 AG n0 cG _ 1 _ G.ints (Nat.le_refl _) (by omega) (by omega)).mono ?_
  rintro e w20 ⟨rfl, hb⟩
  have os_w20 : w19.heap.size ≤ w20.heap.size := hb.size
  replace HB := Lib.hid ((hb.block _ (lt_of_block HB.out)).trans HB.out)
  replace HX := Lib.hid ((hb.block _ (lt_of_block HX.out)).trans HX.out)
  replace HC := Lib.hid ((hb.block _ (lt_of_block HC.out)).trans HC.out)
  replace HY := Lib.hid ((hb.block _ (lt_of_block HY.out)).trans HY.out)
  replace HZ := Lib.hid ((hb.block _ (lt_of_block HZ.out)).trans HZ.out)
  replace S := S.below hb
  replace G := G.below hb
  replace K := K.below hb
  replace acc := acc.trans (hb.mono acc.size)
  clear hb
  obtain ⟨kB0, kB1, kB2⟩ := cells3 HB.out
  have l_B := lt_of_block HB.out
  obtain ⟨kX0, kX1, kX2⟩ := cells3 HX.out
  have l_X := lt_of_block HX.out
  obtain ⟨kC0, kC1, kC2⟩ := cells3 HC.out
  have l_C := lt_of_block HC.out
  obtain ⟨kY0, kY1, kY2⟩ := cells3 HY.out
  have l_Y := lt_of_block HY.out
  obtain ⟨kZ0, kZ1, kZ2⟩ := cells3 HZ.out
  have l_Z := lt_of_block HZ.out
  go_wp2
  go_ret
  exact ⟨rfl, acc⟩
end Go.Proofs.Ytlpkafhapmkkfaa
