/- The walk of FnTallies. -/
import Derived.Test.YtdlcjmdkafebpaaDraw26
import Derived.Test.YtdlcjmdkafebpaaTlyN
import Derived.Test.YtdlcjmdkafebpaaTlyH
import Derived.Test.YtdlcjmdkafebpaaTlyT
import Derived.Test.YtdlcjmdkafebpaaGrow
namespace Go.Proofs.Ytdlcjmdkafebpaa
open Go.RowKit
set_option linter.unusedVariables false

theorem cntIn_t {x : Tly} {n : Int} (h : (cntIn x n).2 = true) : (cntIn x n).1 = ⟨x.inn + n, x.out, x.room⟩ ∧ isTly x = true ∧ inB n 0 1000 = true ∧ isTly ⟨x.inn + n, x.out, x.room⟩ = true := by
  unfold cntIn at h ⊢
  by_cases e : (isTly x && inB n 0 1000 && isTly ⟨x.inn + n, x.out, x.room⟩) = true
  · rw [if_pos e]
    simp only [Bool.and_eq_true] at e
    exact ⟨rfl, e.1.1, e.1.2, e.2⟩
  · rw [if_neg e] at h
    cases h
theorem cntIn_f {x : Tly} {n : Int} (h : (cntIn x n).2 = false) : (cntIn x n).1 = x := by
  unfold cntIn at h ⊢
  by_cases e : (isTly x && inB n 0 1000 && isTly ⟨x.inn + n, x.out, x.room⟩) = true
  · rw [if_pos e] at h
    cases h
  · rw [if_neg e]
theorem u8_of_wfT {z : Int} (h : (Lit.int .u8 z).wf = true) : 0 ≤ z ∧ z ≤ 255 := by
  have h' : (decide (IntKind.u8.min ≤ z) && decide (z ≤ IntKind.u8.max)) = true := h
  simp only [Bool.and_eq_true, decide_eq_true_eq] at h'
  exact h'
theorem neq_tly (a b c : Int) (W : World) : (binOp .neq 92 (.agg #[.int .i64 a, .int .i64 b, .int .i64 c]) (.agg #[.int .i64 a, .int .i64 b, .int .i64 c])).run Try.prog W = .ok (.bool false) W := by
  rw [run_neq_struct, run_equalIn_agg W 9999 92 _ _ (by kernel_rfl) (by kernel_rfl)]
  have hi := fun x y => run_equalIn_int (P := Try.prog) W 9998 3 .i64 .i64 x y Try.underlying3
  simp only [Nat.reduceAdd] at hi
  have hf : (Try.prog.fieldsOf 92).toList.map (fun f => (f.name, f.type, f.offset)) = [("In", 3, 0), ("Out", 3, 1), ("Room", 3, 2)] := by kernel_rfl
  generalize (Try.prog.fieldsOf 92).toList = l at hf ⊢
  cases l with
  | nil => simp at hf
  | cons f0 l =>
    cases l with
    | nil => simp at hf
    | cons f1 l =>
      cases l with
      | nil => simp at hf
      | cons f2 l =>
        cases l with
        | cons f3 l => simp at hf
        | nil =>
          simp only [List.map_cons, List.map_nil, List.cons.injEq, Prod.mk.injEq, and_true] at hf
          obtain ⟨⟨n0, t0, o0⟩, ⟨n1, t1, o1⟩, n2, t2, o2⟩ := hf
          simp only [Op.eqFields, n0, t0, o0, n1, t1, o1, n2, t2, o2]
          have q0 : ∀ x y z : Int, (part 3 #[.int .i64 x, .int .i64 y, .int .i64 z] 0).run Try.prog W = .ok (.int .i64 x) W := fun x y z => by kernel_rfl
          have q1 : ∀ x y z : Int, (part 3 #[.int .i64 x, .int .i64 y, .int .i64 z] 1).run Try.prog W = .ok (.int .i64 y) W := fun x y z => by kernel_rfl
          have q2 : ∀ x y z : Int, (part 3 #[.int .i64 x, .int .i64 y, .int .i64 z] 2).run Try.prog W = .ok (.int .i64 z) W := fun x y z => by kernel_rfl
          simp [q0, q1, q2, hi, Result.andThen]
set_option maxHeartbeats 4000000 in
set_option maxRecDepth 100000 in
theorem walk_FnTallies (W : World) (A : Option Addr) (n c : Nat) (zs : List Int) (ha : IntsAt .u8 W W.heap.size A n zs ∧ (∀ z ∈ zs, (Lit.int .u8 z).wf = true) ∧ n ≤ c ∧ c ≤ maxLen) :
    Calls Try.prog 13 #[.slice A n c] W fun e w' => e = .returned (.bool true) ∧ Below W.heap.size W w' := by
  obtain ⟨ha1, ha2, ha3, ha4⟩ := ha
  unfold maxLen at ha4
  have hb : Bytes W W.heap.size A n zs := ⟨ha1, fun z hz => u8_of_wfT (ha2 z hz)⟩
  have HB := Lib.hid hb
  clear ha1 ha2 hb
  by_cases hbig : 1048576 < n
  · go_enter Try.func13, Try.ntmps13
    go_wp2_with fail
    refine (laws_big _ _ _ _ (by omega)).mono ?_
    rintro e w' ⟨rfl, rfl⟩
    go_wp2
    go_ret
    exact ⟨rfl, Below.refl _ _⟩
  · go_enter Try.func13, Try.ntmps13
    go_wp2_with fail
    refine (laws_big _ _ _ _ (by omega)).mono ?_
    rintro e w' ⟨rfl, rfl⟩
    go_wp2_with fail
    refine (spec_DrawCountIn A n c _ zs _ HB.out (Nat.le_refl _) (by omega)).mono ?_
    rintro e w1 ⟨⟨p0, p1, p2⟩, m, -, ⟨hm1, hm2⟩, rfl, hb1⟩
    obtain ⟨w2, hw2⟩ : ∃ w2, w2 = w1.alloc (.cells #[.int .i64 p0, .int .i64 p1, .int .i64 p2] 92) := ⟨_, rfl⟩
    obtain ⟨hk2, hsz2, hB2⟩ := one_block hw2
    have hsz1 := hb1.size
    have acc2 := hb1.trans (hB2.mono hsz1)
    have bp : TlyAt w2 ⟨w1.heap.size, 0, none⟩ ⟨p0, p1, p2⟩ := tly_of_block (p := ⟨p0, p1, p2⟩) hk2
    have hci := impl_CountIn ⟨p0, p1, p2⟩ m w2
    have HBP := Lib.hid bp
    have HACC2 := Lib.hid acc2
    obtain ⟨k0, k1, k2⟩ := tly_head bp
    simp only at k0 k1 k2
    simp only [Tly.val] at hci ⊢
    clear hk2 hB2 hb1 acc2 bp
    cases hok : (cntIn ⟨p0, p1, p2⟩ m).2
    · have hy := cntIn_f hok
      rw [hok, hy] at hci
      simp only at hci
      clear hok hy
      go_wp2_with fail
      rw [← hw2]
      clear hw2
      go_wp2_with fail
      refine hci.mono ?_
      rintro e w3 ⟨rfl, hb3⟩
      obtain ⟨w4, hw4⟩ : ∃ w4, w4 = w3.alloc (.cells #[.int .i64 p0, .int .i64 p1, .int .i64 p2] 92) := ⟨_, rfl⟩
      obtain ⟨hk4, hsz4, hB4⟩ := one_block hw4
      have hsz3 := hb3.size
      have by4 : TlyAt w4 ⟨w3.heap.size, 0, none⟩ ⟨p0, p1, p2⟩ := tly_of_block (p := ⟨p0, p1, p2⟩) hk4
      have bp4 := (HBP.out.below hb3 (by simp only; omega)).below hB4 (by simp only; omega)
      have acc4 := HACC2.out.trans ((hb3.trans (hB4.mono hsz3)).mono HACC2.out.size)
      have f0 := fun y : GW w4 => (tly_head (bp4.below y.ok (by simp only; omega))).1
      have f1 := fun y : GW w4 => (tly_head (bp4.below y.ok (by simp only; omega))).2.1
      have f2 := fun y : GW w4 => (tly_head (bp4.below y.ok (by simp only; omega))).2.2
      have g0 := fun y : GW w4 => (tly_head (by4.below y.ok (by simp only; omega))).1
      have g1 := fun y : GW w4 => (tly_head (by4.below y.ok (by simp only; omega))).2.1
      have g2 := fun y : GW w4 => (tly_head (by4.below y.ok (by simp only; omega))).2.2
      have hnq := fun W => neq_tly p0 p1 p2 W
      have HACC4 := Lib.hid acc4
      simp only at f0 f1 f2 g0 g1 g2
      clear hk4 hB4 hb3 by4 bp4 acc4 k0 k1 k2 hci
      go_wp2
      rw [← hw4]
      clear hw4
      refine wp_region_grow (by kernel_rfl) (by kernel_rfl) ?_
      repeat (go_big_quiet_step (fail))
      refine wpQuiet_nil ?_
      intro x3
      have hb3 := x3.ok
      generalize x3.val = w5 at *
      have hbx := HACC4.out.trans (hb3.mono HACC4.out.size)
      clear f0 f1 f2 g0 g1 g2 hnq hb3
      -- the second draw
      have HBX := Lib.hid hbx
      clear hbx
      go_wp2_with fail
      refine (spec_DrawCanHold A n c _ zs _ (HB.out.below HBX.out) HBX.out.size (by omega)).mono ?_
      rintro e w7 ⟨A', n', c', l, st, m2, hn', ⟨hs1, hs2⟩, ⟨hm5, hm6⟩, rfl, hl, hb7⟩
      have HB7 := Lib.hid (HBX.out.trans (hb7.mono HBX.out.size))
      have hll := hl.1
      have HL := Lib.hid hl
      have htot : totIn l ≥ 0 := (sumIn_bound l l.length).1
      have hch := fun y : GW w7 => impl_CanHold A' n' c' w7.heap.size l st m2 y.val (hl.below y.ok) y.ok.size (by omega)
      have HTI := Lib.hid (fun (w9 : World) (h : Below w7.heap.size w7 w9) => impl_TotalInside A' n' c' w7.heap.size l w9 (HL.out.below h) h.size (by omega))
      generalize totIn l = tot at *
      clear hb7 hl
      cases hh : holdT l st m2
      · rw [hh] at hch
        clear hh
        go_wp2
        refine wp_region_grow (by kernel_rfl) (by kernel_rfl) ?_
        repeat (go_big_quiet_step (first | (go_at_call 71; exact calls_gw _ (hch _))))
        refine wpQuiet_nil ?_
        intro x3
        have hb3 := x3.ok
        generalize x3.val = w9 at *
        have hti := HTI.out w9 hb3
        have HB9 := Lib.hid (HB7.out.trans (hb3.mono HB7.out.size))
        clear hch hb3 HTI
        go_wp2_with fail
        refine hti.mono ?_
        rintro e w10 ⟨rfl, hb10⟩
        go_wp2
        go_ret
        exact ⟨rfl, HB9.out.trans (hb10.mono HB9.out.size)⟩
      · rw [hh] at hch
        unfold holdT at hh
        rw [Bool.and_eq_true] at hh
        obtain ⟨h1, h2⟩ := hh
        have h3 := inB_t h1
        obtain ⟨j, rfl⟩ : ∃ j : Nat, st = (j : Int) := ⟨st.toNat, by omega⟩
        rw [Int.toNat_natCast] at h2
        obtain ⟨ad, ⟨x0, x1, x2⟩, rfl, hab, hp, hq⟩ := HL.out.at (k := j) (by omega)
        rw [tlyA_some hp] at h2
        obtain ⟨-, ht1, hm7, ht2⟩ := cntIn_t h2
        obtain ⟨q1, q2, q3, q4⟩ := (isTly_iff _).1 ht1
        obtain ⟨r1, r2, r3, r4⟩ := (isTly_iff _).1 ht2
        have hm8 := inB_t hm7
        simp only at q1 q2 q3 q4 r1 r2 r3 r4
        have i3 : insideT ⟨x0, x1, x2⟩ = x0 - x1 := by unfold insideT; rw [ht1]; rfl
        have hjt := fun y => impl_IsTally ⟨x0, x1, x2⟩ y
        have hji := fun y => impl_Inside ⟨x0, x1, x2⟩ y
        rw [ht1] at hjt
        rw [i3] at hji
        simp only [Tly.val] at hjt hji
        have hwj : IntKind.i64.wrap (x0 - x1 + m2) = x0 - x1 + m2 := by rw [IntKind.wrap_i64]; omega
        have hgj : decide (x0 - x1 + m2 > x2) = false := decide_eq_false (by omega)
        have hgj2 : ¬ (x0 - x1 + m2 > x2) := by omega
        have j1 : (0 : Int) ≤ (j : Int) := by omega
        have j2 : (j : Int) < (n' : Int) := by omega
        have f0 := fun y : GW w7 => (hq.below y.ok hab).c0
        have f1 := fun y : GW w7 => (hq.below y.ok hab).c1
        have f2 := fun y : GW w7 => (hq.below y.ok hab).c2
        simp only at f0 f1 f2
        clear h1 h2 h3 hp hq ht1 hm7 ht2 q1 q2 q3 q4 r1 r2 r3 r4 hm8 i3
        go_wp2
        refine wp_region_grow (by kernel_rfl) (by kernel_rfl) ?_
        repeat (go_big_quiet_step (first | (go_at_call 71; exact calls_gw _ (hch _)) | (go_at_call 72; exact calls_gw _ (hjt _)) | (go_at_call 68; exact calls_gw _ (hji _))))
        refine wpQuiet_nil ?_
        intro x3
        have hb3 := x3.ok
        generalize x3.val = w9 at *
        have hti := HTI.out w9 hb3
        have HB9 := Lib.hid (HB7.out.trans (hb3.mono HB7.out.size))
        clear hch hb3 HTI f0 f1 f2 hjt hji
        go_wp2_with fail
        refine hti.mono ?_
        rintro e w10 ⟨rfl, hb10⟩
        go_wp2
        go_ret
        exact ⟨rfl, HB9.out.trans (hb10.mono HB9.out.size)⟩
    · obtain ⟨hy, ht1, hm3, ht2⟩ := cntIn_t hok
      rw [hok, hy] at hci
      simp only at hci
      obtain ⟨q1, q2, q3, q4⟩ := (isTly_iff _).1 ht1
      obtain ⟨r1, r2, r3, r4⟩ := (isTly_iff _).1 ht2
      have hm4 := inB_t hm3
      simp only at q1 q2 q3 q4 r1 r2 r3 r4
      have ht3 : isTly ⟨p0 + m, p1 + m, p2⟩ = true := (isTly_iff _).2 ⟨by simp only; omega, by simp only; omega, by simp only; omega, by simp only; omega⟩
      have i1 : insideT ⟨p0, p1, p2⟩ = p0 - p1 := by unfold insideT; rw [ht1]; rfl
      have i2 : insideT ⟨p0 + m, p1, p2⟩ = p0 - p1 + m := by unfold insideT; rw [ht2, if_pos rfl]; simp only; omega
      have i3 : insideT ⟨p0 + m, p1 + m, p2⟩ = p0 - p1 := by unfold insideT; rw [ht3, if_pos rfl]; simp only; omega
      have hco : cntOut ⟨p0 + m, p1, p2⟩ m = (⟨p0 + m, p1 + m, p2⟩, true) := by unfold cntOut; rw [ht2, hm3, ht3]; rfl
      have hip := fun y => impl_Inside ⟨p0, p1, p2⟩ y
      have hiy := fun y => impl_Inside ⟨p0 + m, p1, p2⟩ y
      have hiz := fun y => impl_Inside ⟨p0 + m, p1 + m, p2⟩ y
      have hcc := fun y => impl_CountOut ⟨p0 + m, p1, p2⟩ m y
      rw [i1] at hip
      rw [i2] at hiy
      rw [i3] at hiz
      rw [hco] at hcc
      simp only [Tly.val] at hip hiy hiz hcc
      have hwa : IntKind.i64.wrap (p0 - p1 + m) = p0 - p1 + m := by rw [IntKind.wrap_i64]; omega
      have hgt : decide (p0 - p1 + m > p2) = false := decide_eq_false (by omega)
      have hgt2 : ¬ (p0 - p1 + m > p2) := by omega
      clear hok hy ht1 ht2 ht3 i1 i2 i3 hco q1 q2 q3 q4 r1 r2 r3 r4 hm3 hm4
      go_wp2_with fail
      rw [← hw2]
      clear hw2
      go_wp2_with fail
      refine hci.mono ?_
      rintro e w3 ⟨rfl, hb3⟩
      obtain ⟨w4, hw4⟩ : ∃ w4, w4 = w3.alloc (.cells #[.int .i64 (p0 + m), .int .i64 p1, .int .i64 p2] 92) := ⟨_, rfl⟩
      obtain ⟨hk4, hsz4, hB4⟩ := one_block hw4
      have hsz3 := hb3.size
      have by4 : TlyAt w4 ⟨w3.heap.size, 0, none⟩ ⟨p0 + m, p1, p2⟩ := tly_of_block (p := ⟨p0 + m, p1, p2⟩) hk4
      have bp4 := (HBP.out.below hb3 (by simp only; omega)).below hB4 (by simp only; omega)
      have acc4 := HACC2.out.trans ((hb3.trans (hB4.mono hsz3)).mono HACC2.out.size)
      have f0 := fun y : GW w4 => (tly_head (bp4.below y.ok (by simp only; omega))).1
      have f1 := fun y : GW w4 => (tly_head (bp4.below y.ok (by simp only; omega))).2.1
      have f2 := fun y : GW w4 => (tly_head (bp4.below y.ok (by simp only; omega))).2.2
      have g0 := fun y : GW w4 => (tly_head (by4.below y.ok (by simp only; omega))).1
      have g1 := fun y : GW w4 => (tly_head (by4.below y.ok (by simp only; omega))).2.1
      have g2 := fun y : GW w4 => (tly_head (by4.below y.ok (by simp only; omega))).2.2
      have HACC4 := Lib.hid acc4
      have HBP4 := Lib.hid bp4
      have HBY4 := Lib.hid by4
      simp only at f0 f1 f2 g0 g1 g2
      clear hk4 hB4 hb3 by4 bp4 acc4 k0 k1 k2 hci
      go_wp2
      rw [← hw4]
      clear hw4
      refine wp_region_grow (by kernel_rfl) (by kernel_rfl) ?_
      repeat (go_big_quiet_step (first | (go_at_call 68; first | with_reducible exact calls_gw _ (hip _) | with_reducible exact calls_gw _ (hiy _))))
      refine wpQuiet_nil ?_
      intro x3
      have hb3 := x3.ok
      generalize x3.val = w5 at *
      have by5 := HBY4.out.below hb3 (by simp only; omega)
      have bp5 := HBP4.out.below hb3 (by simp only; omega)
      have acc5 := HACC4.out.trans (hb3.mono HACC4.out.size)
      have hsz5 := hb3.size
      obtain ⟨k0, k1, k2⟩ := tly_head by5
      simp only at k0 k1 k2
      have hco5 := hcc w5
      have HACC5 := Lib.hid acc5
      have HBP5 := Lib.hid bp5
      clear f0 f1 f2 g0 g1 g2 hb3 by5 bp5 acc5 hcc
      go_wp2_with fail
      refine hco5.mono ?_
      rintro e w6 ⟨rfl, hb6⟩
      obtain ⟨w8, hw8⟩ : ∃ w8, w8 = w6.alloc (.cells #[.int .i64 (p0 + m), .int .i64 (p1 + m), .int .i64 p2] 92) := ⟨_, rfl⟩
      obtain ⟨hk8, hsz8, hB8⟩ := one_block hw8
      have hsz6 := hb6.size
      have bz8 : TlyAt w8 ⟨w6.heap.size, 0, none⟩ ⟨p0 + m, p1 + m, p2⟩ := tly_of_block (p := ⟨p0 + m, p1 + m, p2⟩) hk8
      have bp8 := (HBP5.out.below hb6 (by simp only; omega)).below hB8 (by simp only; omega)
      have acc8 := HACC5.out.trans ((hb6.trans (hB8.mono hsz6)).mono HACC5.out.size)
      have f0 := fun y : GW w8 => (tly_head (bp8.below y.ok (by simp only; omega))).1
      have f1 := fun y : GW w8 => (tly_head (bp8.below y.ok (by simp only; omega))).2.1
      have f2 := fun y : GW w8 => (tly_head (bp8.below y.ok (by simp only; omega))).2.2
      have g0 := fun y : GW w8 => (tly_head (bz8.below y.ok (by simp only; omega))).1
      have g1 := fun y : GW w8 => (tly_head (bz8.below y.ok (by simp only; omega))).2.1
      have g2 := fun y : GW w8 => (tly_head (bz8.below y.ok (by simp only; omega))).2.2
      have HACC8 := Lib.hid acc8
      simp only at f0 f1 f2 g0 g1 g2
      clear hk8 hB8 hb6 bz8 bp8 acc8 k0 k1 k2 hco5
      go_wp2
      rw [← hw8]
      clear hw8
      refine wp_region_grow (by kernel_rfl) (by kernel_rfl) ?_
      repeat (go_big_quiet_step (first | (go_at_call 68; first | with_reducible exact calls_gw _ (hip _) | with_reducible exact calls_gw _ (hiz _))))
      refine wpQuiet_nil ?_
      intro x3
      have hb3 := x3.ok
      generalize x3.val = w9 at *
      have hbx := HACC8.out.trans (hb3.mono HACC8.out.size)
      clear f0 f1 f2 g0 g1 g2 hip hiy hiz hb3
      -- the second draw
      have HBX := Lib.hid hbx
      clear hbx
      go_wp2_with fail
      refine (spec_DrawCanHold A n c _ zs _ (HB.out.below HBX.out) HBX.out.size (by omega)).mono ?_
      rintro e w7 ⟨A', n', c', l, st, m2, hn', ⟨hs1, hs2⟩, ⟨hm5, hm6⟩, rfl, hl, hb7⟩
      have HB7 := Lib.hid (HBX.out.trans (hb7.mono HBX.out.size))
      have hll := hl.1
      have HL := Lib.hid hl
      have htot : totIn l ≥ 0 := (sumIn_bound l l.length).1
      have hch := fun y : GW w7 => impl_CanHold A' n' c' w7.heap.size l st m2 y.val (hl.below y.ok) y.ok.size (by omega)
      have HTI := Lib.hid (fun (w9 : World) (h : Below w7.heap.size w7 w9) => impl_TotalInside A' n' c' w7.heap.size l w9 (HL.out.below h) h.size (by omega))
      generalize totIn l = tot at *
      clear hb7 hl
      cases hh : holdT l st m2
      · rw [hh] at hch
        clear hh
        go_wp2
        refine wp_region_grow (by kernel_rfl) (by kernel_rfl) ?_
        repeat (go_big_quiet_step (first | (go_at_call 71; exact calls_gw _ (hch _))))
        refine wpQuiet_nil ?_
        intro x3
        have hb3 := x3.ok
        generalize x3.val = w9 at *
        have hti := HTI.out w9 hb3
        have HB9 := Lib.hid (HB7.out.trans (hb3.mono HB7.out.size))
        clear hch hb3 HTI
        go_wp2_with fail
        refine hti.mono ?_
        rintro e w10 ⟨rfl, hb10⟩
        go_wp2
        go_ret
        exact ⟨rfl, HB9.out.trans (hb10.mono HB9.out.size)⟩
      · rw [hh] at hch
        unfold holdT at hh
        rw [Bool.and_eq_true] at hh
        obtain ⟨h1, h2⟩ := hh
        have h3 := inB_t h1
        obtain ⟨j, rfl⟩ : ∃ j : Nat, st = (j : Int) := ⟨st.toNat, by omega⟩
        rw [Int.toNat_natCast] at h2
        obtain ⟨ad, ⟨x0, x1, x2⟩, rfl, hab, hp, hq⟩ := HL.out.at (k := j) (by omega)
        rw [tlyA_some hp] at h2
        obtain ⟨-, ht1, hm7, ht2⟩ := cntIn_t h2
        obtain ⟨q1, q2, q3, q4⟩ := (isTly_iff _).1 ht1
        obtain ⟨r1, r2, r3, r4⟩ := (isTly_iff _).1 ht2
        have hm8 := inB_t hm7
        simp only at q1 q2 q3 q4 r1 r2 r3 r4
        have i3 : insideT ⟨x0, x1, x2⟩ = x0 - x1 := by unfold insideT; rw [ht1]; rfl
        have hjt := fun y => impl_IsTally ⟨x0, x1, x2⟩ y
        have hji := fun y => impl_Inside ⟨x0, x1, x2⟩ y
        rw [ht1] at hjt
        rw [i3] at hji
        simp only [Tly.val] at hjt hji
        have hwj : IntKind.i64.wrap (x0 - x1 + m2) = x0 - x1 + m2 := by rw [IntKind.wrap_i64]; omega
        have hgj : decide (x0 - x1 + m2 > x2) = false := decide_eq_false (by omega)
        have hgj2 : ¬ (x0 - x1 + m2 > x2) := by omega
        have j1 : (0 : Int) ≤ (j : Int) := by omega
        have j2 : (j : Int) < (n' : Int) := by omega
        have f0 := fun y : GW w7 => (hq.below y.ok hab).c0
        have f1 := fun y : GW w7 => (hq.below y.ok hab).c1
        have f2 := fun y : GW w7 => (hq.below y.ok hab).c2
        simp only at f0 f1 f2
        clear h1 h2 h3 hp hq ht1 hm7 ht2 q1 q2 q3 q4 r1 r2 r3 r4 hm8 i3
        go_wp2
        refine wp_region_grow (by kernel_rfl) (by kernel_rfl) ?_
        repeat (go_big_quiet_step (first | (go_at_call 71; exact calls_gw _ (hch _)) | (go_at_call 72; exact calls_gw _ (hjt _)) | (go_at_call 68; exact calls_gw _ (hji _))))
        refine wpQuiet_nil ?_
        intro x3
        have hb3 := x3.ok
        generalize x3.val = w9 at *
        have hti := HTI.out w9 hb3
        have HB9 := Lib.hid (HB7.out.trans (hb3.mono HB7.out.size))
        clear hch hb3 HTI f0 f1 f2 hjt hji
        go_wp2_with fail
        refine hti.mono ?_
        rintro e w10 ⟨rfl, hb10⟩
        go_wp2
        go_ret
        exact ⟨rfl, HB9.out.trans (hb10.mono HB9.out.size)⟩
end Go.Proofs.Ytdlcjmdkafebpaa
