/- The walk of FnKeyedHash. -/
import Derived.Test.YtglgmikeancimaaDoorKey
import Derived.Test.YtglgmikeancimaaDoorDraw3
import Derived.Test.YtglgmikeancimaaDoorAt
import Derived.StillTailTactics
namespace Go.Proofs.YtglgmikeancimaaDoor
open Go.RowKit
set_option linter.unusedVariables false

theorem khash_app (k : Int) (l : List Int) : hashI (([k] ++ l) ++ [k]) = khash k l := rfl
theorem khash_set {k : Int} {l : List Int} {i : Nat} {z : Int} (hi : i < l.length) (h : l.getD i 0 % 2147483647 ≠ z % 2147483647) : khash k (l.set i z) ≠ khash k l := by
  have e1 : l = l.take i ++ l.getD i 0 :: l.drop (i + 1) := by
    rw [List.getD_eq_getElem?_getD, List.getElem?_eq_getElem hi]
    simp
  have e2 : l.set i z = l.take i ++ z :: l.drop (i + 1) := by
    rw [List.set_eq_take_append_cons_drop, if_pos hi]
  have h2 := hash_differs (k :: l.take i) (l.drop (i + 1) ++ [k]) (l.getD i 0) z h
  unfold khash
  rw [e2]
  intro e
  apply h2
  have e3 : k :: (l ++ [k]) = (k :: l.take i) ++ l.getD i 0 :: (l.drop (i + 1) ++ [k]) := by
    conv => lhs; rw [e1]
    simp
  rw [← e3, ← e]
  simp
theorem turned {v x : Int} (hx : 0 ≤ x ∧ x < 256) : v % 2147483647 ≠ (v + 1 + x) % 2147483647 % 2147483647 := by omega
set_option maxHeartbeats 2000000 in
theorem walk_FnKeyedHash (W : World) (A : Option Addr) (n c : Nat) (zs : List Int) (ha : IntsAt .u8 W W.heap.size A n zs ∧ (∀ z ∈ zs, (Lit.int .u8 z).wf = true) ∧ n ≤ c ∧ c ≤ maxLen) (h1 : Sent W 0) (h2 : Sent W 1) :
    Calls Tryd.prog 3 #[.slice A n c] W fun e w' => e = .returned (.bool true) ∧ Below W.heap.size W w' := by
  obtain ⟨hi, hw, hnc, hcm⟩ := ha
  unfold maxLen at hcm
  have hB : Bytes W W.heap.size A n zs := ⟨hi, fun z hz => by
    have h' : (decide (IntKind.u8.min ≤ z) && decide (z ≤ IntKind.u8.max)) = true := hw z hz
    simp only [Bool.and_eq_true, decide_eq_true_eq] at h'
    exact h'⟩
  have HB := Lib.hid hB
  have H1 := Lib.hid h1
  have H2 := Lib.hid h2
  clear hB hi hw h1 h2
  by_cases hbig : 1048576 < n
  · go_enter Tryd.func3, Tryd.ntmps3
    go_wp2_with (go_at_call 6; refine (laws_big _ _ _ _ (by omega)).mono ?_; rintro e w' ⟨rfl, rfl⟩)
    go_ret
    exact ⟨rfl, Below.refl _ _⟩
  · have hend : ∀ (w : World), Below W.heap.size W w → Calls Tryd.prog 12 #[.slice A n c] w fun e w' => ∃ K s, e = .returned (.tuple #[.int .i64 K, .string s]) ∧ (-1 ≤ K ∧ K ≤ 2147483648) ∧ s.size ≤ 10 ∧ Below W.heap.size W w' := fun w acc =>
      (spec_DrawDeriveFromString A n c _ zs w (HB.out.keep fun p hp => acc.cell hp) acc.size (by omega)).mono fun e w' ⟨K, s, h1, h2, h3, h4⟩ => ⟨K, s, h1, h2, h3, acc.trans (h4.mono acc.size)⟩
    have HEND := Lib.hid hend
    clear hend
    go_enter Tryd.func3, Tryd.ntmps3
    go_wp2_with fail
    refine (laws_big _ _ _ _ (by omega)).mono ?_
    rintro e w' ⟨rfl, rfl⟩
    go_wp2_with fail
    refine (spec_DrawKeyedHash A n c _ zs _ HB.out (Nat.le_refl _) (by omega)).mono ?_
    rintro e w1 ⟨K, v, l, rfl, ⟨hK1, hK2⟩, hown, hl, hby, acc⟩
    obtain ⟨A1, c1, rfl⟩ := hown.sliced
    have o1 := Ow.new hown
    have HY := Lib.hid hby
    clear hby hown
    obtain ⟨r1, r2⟩ := khash_range K l
    obtain ⟨x, hx⟩ : ∃ x, khash K l = x := ⟨_, rfl⟩
    rw [hx] at r1 r2
    have HX := Lib.hid hx
    have HX2 := Lib.hid ((khash_app K l).trans hx)
    clear hx
    go_wp2_with fail
    refine (impl_KeyedHash K A1 _ c1 _ l _ o1.ints (by omega)).mono ?_
    rw [HX.out]
    rintro e w2 ⟨rfl, rfl⟩
    have d1 : decide (x < 0) = false := decide_eq_false (by omega)
    have d2 : decide (2147483647 ≤ x) = false := decide_eq_false (by omega)
    have own0 : Own .i64 3 (w1.alloc (.cells #[.int .i64 K] 3)) w1.heap.size (.slice (some ⟨w1.heap.size, 0, none⟩) 1 1) [K] := own_lit w1 [K] 1 (Nat.le_refl _) (by decide) rfl
    go_wp2_with (first
      | (at_builtin; refine wpList_want rfl ?_; refine wpList_app rfl _ _ 24 24 rfl .i64 3 3 8 Tryd.underlying24 Tryd.underlying24 info_i64 w1.heap.size _ [K] rfl own0 A1 _ c1 w1.heap.size l rfl (o1.ints.keep fun p hp => World.cell?_of_block (Below.heap_alloc w1 _ _ (by omega))) o1.own.nilcap' (by decide) (by simp; omega) (by simp) ?_; intro v3 w3 hown3 hgrow3 hat3; have hb3 := own0.push (Nat.le_refl _) ((Below.refl _ _).alloc (Nat.le_refl _) _) (by simp) hgrow3; have hs3 := hb3.size; clear hgrow3 hat3)
      | (at_builtin; refine wpList_want rfl ?_; refine wpList_app1 rfl _ _ 24 rfl .i64 3 8 Tryd.underlying24 info_i64 w1.heap.size _ _ rfl hown3 (by decide) (by simp; omega) _ _ _ w3.heap.size hs3 rfl (by simp) ?_; intro v4 w4 hown4 hgrow4 hat4; have hb4 := hown3.push (Nat.le_refl _) (hb3.alloc hs3 _) (by simp; omega) hgrow4; clear hgrow4 hat4 hown3; obtain ⟨A4, c4, rfl⟩ := hown4.sliced)
      | (go_at_call 9; fail))
    have hi4 := hown4.ints
    rw [show ([K] ++ l ++ [K]).length = l.length + 1 + 1 from by simp] at hi4
    refine (impl_Hash A4 _ c4 _ _ _ hi4 (by omega)).mono ?_
    rw [HX2.out]
    rintro e w5 ⟨rfl, rfl⟩
    replace o1 := o1.below hb4
    replace acc := acc.trans (hb4.mono acc.size)
    clear hown4 hi4 hb4 hb3 own0
    by_cases h0 : l.length = 0
    · go_wp2_with fail
      refine (HEND.out _ acc).mono ?_
      rintro e w5 ⟨K2, s, rfl, ⟨hK3, hK4⟩, hsz, acc2⟩
      go_wp2_with fail
      refine (impl_DeriveFromString K2 s _ (by omega) (H1.out.below acc2 (Nat.le_refl _))).mono ?_
      rintro e w6 ⟨rfl, hb⟩
      replace acc2 := acc2.trans (hb.mono acc2.size)
      have hd := derive_range K2 (sbytes s)
      have HI : Hid (inB (derive K2 (sbytes s)) 1 2147483646 = true) := Lib.hid (by simp [inB]; omega)
      generalize derive K2 (sbytes s) = y at *
      go_wp2_with fail
      refine (impl_IsValidKey y _ (H1.out.below acc2 (Nat.le_refl _)) (H2.out.below acc2 (Nat.le_refl _))).mono ?_
      rw [HI.out]
      rintro e w7 ⟨rfl, rfl⟩
      go_wp2
      go_ret
      exact ⟨rfl, acc2⟩
    · have hp : decide (0 < l.length) = true := decide_eq_true (by omega)
      have hpos : (0 : Int) < (l.length : Int) := by omega
      have hpos2 : 0 < l.length := by omega
      have hs4 := acc.size
      go_wp2_with (first
        | (at_builtin; refine wpList_app rfl _ _ 24 24 rfl .i64 3 3 8 Tryd.underlying24 Tryd.underlying24 info_i64 w4.heap.size _ [] rfl (own_bare _ _ w4) A1 _ c1 w4.heap.size l rfl (o1.ints.keep fun p hp => World.cell?_of_block (Below.heap_alloc w4 _ _ (by omega))) o1.own.nilcap' (by decide) (by simp; omega) (by simp) ?_; intro v5 w5 hown5 hgrow5 hat5; rw [List.nil_append] at hown5; have hb5 := (own_bare .i64 3 w4).push (Nat.le_refl _) ((Below.refl _ _).alloc (Nat.le_refl _) _) (by simp) hgrow5; clear hgrow5 hat5; obtain ⟨A5, c5, rfl⟩ := hown5.sliced))
      replace acc := acc.trans (hb5.mono acc.size)
      rcases hown5.shape with ⟨e, he⟩ | ⟨g, cap, e, hg, hgs, hcap, hmax⟩
      · exact absurd he (by intro he; rw [he] at h0; exact h0 rfl)
      injection e with e1 _ e3
      obtain rfl := e1
      obtain rfl := e3
      clear o1 hb5 hp
      refine (laws_at A n c _ 0 zs _ (HB.out.keep fun p hp => acc.cell hp) (by omega) (by omega)).mono ?_
      rintro e w6 ⟨x0, hx0, rfl, rfl⟩
      go_wp2_with fail
      obtain ⟨i, hi⟩ : ∃ i : Nat, (x0 : Int) % (l.length : Int) = (i : Int) := ⟨x0 % l.length, by simp⟩
      have hil : i < l.length := by
        have := Int.emod_lt_of_pos (x0 : Int) hpos
        omega
      rw [hi]
      have i1 : (0 : Int) ≤ (i : Int) := by omega
      have i2 : (i : Int) < (l.length : Int) := by omega
      have hc := hown5.cell i hil
      have hf := hown5.free i
      obtain ⟨y1, y2⟩ := atI_range (i := 1) HB.out.1.1 HB.out.2
      have hat : ∀ w', Below W.heap.size W w' → Calls Tryd.prog 10 #[.slice A n c, .int .i64 1] w' fun e w'' => e = .returned (.int .i64 (atI zs n 1)) ∧ w'' = w' := fun w' acc' => laws_atV A n c _ 1 zs w' (HB.out.keep fun p hp => acc'.cell hp) (by omega) (by omega)
      have HAT := Lib.hid hat
      have hz := HY.out (l.getD i 0) (by rw [List.getD_eq_getElem?_getD, List.getElem?_eq_getElem hil]; exact List.getElem_mem _)
      obtain ⟨z1, z2⟩ := hz
      have ht := turned (v := l.getD i 0) ⟨y1, y2⟩
      have hneq := khash_set (k := K) hil ht
      rw [HX.out] at hneq
      have hst := hown5.stored i ((l.getD i 0 + 1 + atI zs n 1) % 2147483647)
      have HST := Lib.hid hst
      have HN := Lib.hid hneq
      have HLL : Hid ((l.set i ((l.getD i 0 + 1 + atI zs n 1) % 2147483647)).length = l.length) := Lib.hid (List.length_set)
      clear hat ht hneq hst hi
      generalize l.getD i 0 = z at *
      generalize atI zs n 1 = y at *
      have e1 : IntKind.i64.wrap (z + 1) = z + 1 := by rw [IntKind.wrap_i64]; omega
      have e2 : IntKind.i64.wrap (z + 1 + y) = z + 1 + y := by rw [IntKind.wrap_i64]; omega
      go_still_tail 12, (by kernel_rfl)
      refine wpStill_step (fun K hK => ?_)
      go_simp
      have hcc := HAT.out w5.drew acc.drew
      refine ⟨Value.int .i64 y, hcc, ?_⟩
      refine hK _ ?_
      clear hcc hK K
      repeat still_step
      refine wpStill_step (fun K hK => ?_)
      go_simp
      have hcc := (spec_Mod (z + 1 + y) 2147483647 w5.drew).mono fun e w' h => (⟨h.1, h.2.symm⟩ : e = .returned (.int .i64 (modI (z + 1 + y) 2147483647)) ∧ w' = w5.drew)
      rw [modI_p] at hcc
      refine ⟨Value.int .i64 ((z + 1 + y) % 2147483647), hcc, ?_⟩
      refine hK _ ?_
      clear hcc hK K
      repeat still_step
      try refine wpStill_nil ?_
      change wpList _ _ _ _ _ w5.drew
      have acc6 : Below W.heap.size W (w5.setCell ⟨g, i, none⟩ (.int .i64 ((z + 1 + y) % 2147483647))) := acc.setCell (by simp; omega) _
      generalize (z + 1 + y) % 2147483647 = q at *
      obtain ⟨x2, hx2⟩ : ∃ x2, khash K (l.set i q) = x2 := ⟨_, rfl⟩
      have hne := HN.out
      rw [hx2] at hne
      have HX3 := Lib.hid hx2
      have ACC := Lib.hid acc6
      clear hx2 acc6 HN
      go_wp2_with fail
      refine (impl_KeyedHash K _ _ c5 _ (l.set i q) (w5.setCell ⟨g, i, none⟩ (.int .i64 q)).drew HST.out.ints (by omega)).mono ?_
      rw [HX3.out]
      rintro e w6 ⟨rfl, rfl⟩
      have acc := ACC.out.drew
      clear ACC HST hc hf hown5
      generalize (w5.setCell ⟨g, i, none⟩ (.int .i64 q)).drew = w7 at *
      go_wp2_with fail
      refine (HEND.out _ acc).mono ?_
      rintro e w8 ⟨K2, s, rfl, ⟨hK3, hK4⟩, hsz, acc2⟩
      go_wp2_with fail
      refine (impl_DeriveFromString K2 s _ (by omega) (H1.out.below acc2 (Nat.le_refl _))).mono ?_
      rintro e w9 ⟨rfl, hb⟩
      replace acc2 := acc2.trans (hb.mono acc2.size)
      have hd := derive_range K2 (sbytes s)
      have HI : Hid (inB (derive K2 (sbytes s)) 1 2147483646 = true) := Lib.hid (by simp [inB]; omega)
      generalize derive K2 (sbytes s) = y at *
      go_wp2_with fail
      refine (impl_IsValidKey y _ (H1.out.below acc2 (Nat.le_refl _)) (H2.out.below acc2 (Nat.le_refl _))).mono ?_
      rw [HI.out]
      rintro e w10 ⟨rfl, rfl⟩
      go_wp2
      go_ret
      exact ⟨rfl, acc2⟩
end Go.Proofs.YtglgmikeancimaaDoor
