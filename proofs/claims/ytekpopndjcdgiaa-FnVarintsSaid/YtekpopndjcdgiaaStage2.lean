/- The walk of FnVarints. -/
import Derived.Test.YtekpopndjcdgiaaDraw2
import Derived.Test.YtekpopndjcdgiaaEnc
import Derived.Test.YtekpopndjcdgiaaGet
import Derived.Test.YtekpopndjcdgiaaGet2
import Derived.Test.YtekpopndjcdgiaaMem
import Derived.Test.YtekpopndjcdgiaaVarL
import Derived.Deep.RegionHeld3
import Derived.Deep.DrawnRows
namespace Go.Proofs.Ytekpopndjcdgiaa
open Go.RowKit
set_option linter.unusedVariables false
attribute [local go_sem ↓] Go.wp_at_zero Go.wp_at_succ

theorem below_laid {w w' : World} {o : Obj} (h : Below (w.alloc o).drew.heap.size (w.alloc o).drew w') : Below w.heap.size w w' :=
  (((Below.refl _ _).alloc (Nat.le_refl _) o).drew).trans (h.mono (by show w.heap.size ≤ (w.alloc o).heap.size; simp))
theorem ints_laid {k : IntKind} {w w' : World} {A : Option Addr} {n : Nat} {zs : List Int} (h : IntsAt k w w.heap.size A n zs) (hb : Below w.heap.size w w') : IntsAt k w' w'.heap.size A n zs :=
  (h.keep fun _ hp => hb.cell hp).up hb.size
set_option maxHeartbeats 2000000 in
set_option maxRecDepth 100000 in
theorem walk_FnVarints (W : World) (A : Option Addr) (n c : Nat) (zs : List Int) (ha : IntsAt .u8 W W.heap.size A n zs ∧ (∀ z ∈ zs, (Lit.int .u8 z).wf = true) ∧ n ≤ c ∧ c ≤ maxLen) :
    Calls Try.prog 3 #[.slice A n c] W fun e w' => e = .returned (.bool true) ∧ Below W.heap.size W w' := by
  obtain ⟨hi, hw, hnc, hcm⟩ := ha
  unfold maxLen at hcm
  have hB : Bytes W W.heap.size A n zs := ⟨hi, fun z hz => by
    have h' : (decide (IntKind.u8.min ≤ z) && decide (z ≤ IntKind.u8.max)) = true := hw z hz
    simp only [Bool.and_eq_true, decide_eq_true_eq] at h'
    exact h'⟩
  have HB := Lib.hid hB
  clear hB hi hw
  by_cases hbig : 1048576 < n
  · go_enter Try.func3, Try.ntmps3
    go_wp2_with (go_at_call 13; refine (laws_big _ _ _ _ (by omega)).mono ?_; rintro e w' ⟨rfl, rfl⟩)
    go_ret
    exact ⟨rfl, Below.refl _ _⟩
  · go_enter Try.func3, Try.ntmps3
    go_wp2_with fail
    refine (laws_big _ _ _ _ (by omega)).mono ?_
    rintro e w' ⟨rfl, rfl⟩
    go_wp2_with fail
    refine (spec_DrawAppendUvarint A n c _ zs _ HB.out (Nat.le_refl _) (by omega)).mono ?_
    rintro e w1 ⟨v1, l, N, rfl, hown1, hl, hby, hN, acc⟩
    obtain ⟨A1, c1, rfl⟩ := hown1.sliced
    have o1 := Ow.new hown1
    clear hown1
    obtain ⟨r, hr⟩ : ∃ r, vput l N = r := ⟨_, rfl⟩
    have hrl := vput_length l N
    have hrb := vput_byte N hby
    have hres : getV (vget r (l.length : Int)) = if 0 ≤ N ∧ N ≤ 1000000000000 then .tuple #[.int .i64 N, .int .i64 (r.length : Int), .bool true] else .tuple #[.int .i64 0, .int .i64 0, .bool false] := by
      by_cases h : 0 ≤ N ∧ N ≤ 1000000000000
      · rw [if_pos h]
        obtain ⟨m, rfl⟩ := Int.eq_ofNat_of_zero_le h.1
        have h2 := vget_put l [] m (by omega)
        rw [vput_in h.1 h.2, Int.toNat_natCast] at hr
        rw [List.append_nil, hr] at h2
        rw [h2, ← hr, List.length_append]
        rfl
      · rw [if_neg h]
        rw [vput_out (by omega)] at hr
        rw [← hr, vget_out (Int.le_refl _)]
        rfl
    have hout : ¬ (0 ≤ N ∧ N ≤ 1000000000000) → r = l := fun h => by rw [← hr]; exact vput_out (by omega)
    rw [hr] at hrl hrb
    have HR := Lib.hid hr
    have HRES := Lib.hid hres
    have HOUT := Lib.hid hout
    have HBY := Lib.hid hby
    have HRB := Lib.hid hrb
    clear hr hres hout hby hrb
    have HRL := Lib.hid hrl
    clear hrl
    go_wp2_with fail
    refine (impl_AppendUvarint A1 _ c1 _ l N _ o1.ints o1.own.nilcap' (Nat.le_refl _) (by omega)).mono ?_
    rw [HR.out]
    rintro e w2 ⟨v2, rfl, hown2, hb⟩
    obtain ⟨A2, c2, rfl⟩ := hown2.sliced
    replace o1 := o1.below hb
    replace acc := acc.trans (hb.mono acc.size)
    have o2 := Ow.new hown2
    clear hown2 hb
    go_wp2_with fail
    refine (impl_ReadUvarint A2 _ c2 _ r _ _ o2.ints HRB.out (by have := HRL.out; omega) (Nat.le_refl _)).mono ?_
    rw [HRES.out]
    rintro e w3 ⟨rfl, hb⟩
    replace o1 := o1.below hb
    replace o2 := o2.below hb
    replace acc := acc.trans (hb.mono acc.size)
    clear hb
    by_cases h : 0 ≤ N ∧ N ≤ 1000000000000
    · rw [if_pos h]
      obtain ⟨h1, h2⟩ := h
      go_wp2_with fail
      refine (spec_DrawReadUvarint A n c _ zs _ (HB.out.keep fun p hp => acc.cell hp) acc.size (by omega)).mono ?_
      rintro e w5 ⟨v3, l3, a, rfl, hown3, hl3, hby3, ha3, hb⟩
      obtain ⟨A3, c3, rfl⟩ := hown3.sliced
      replace acc := acc.trans (hb.mono acc.size)
      have o3 := Ow.new hown3
      have HBY3 := Lib.hid hby3
      clear hown3 hb o1 o2 hby3
      go_wp2_with fail
      refine (impl_ReadUvarint A3 _ c3 _ l3 a _ o3.ints HBY3.out (by omega) (Nat.le_refl _)).mono ?_
      rintro e w6 ⟨rfl, hb⟩
      replace o3 := o3.below hb
      replace acc := acc.trans (hb.mono acc.size)
      clear hb
      cases hv : vget l3 a with
      | none =>
        have HV := Lib.hid (congrArg getV hv)
        clear hv
        simp only [getV]
        go_wp2_with fail
        refine (spec_ReadUvarint A3 _ c3 _ l3 a _ o3.ints HBY3.out (by omega)).mono ?_
        rintro e w7 ⟨rfl, rfl⟩
        rw [HV.out]
        simp only [getV]
        go_wp2
        go_ret
        exact ⟨rfl, acc⟩
      | some mq =>
        obtain ⟨M, q⟩ := mq
        obtain ⟨hM, hq0, hq⟩ := vget_facts hv
        obtain ⟨p, hp, hpq⟩ := vget_from hv
        subst hp
        have hcan := vget_canon HBY3.out hv
        obtain ⟨hcap1, hcap2⟩ := o3.own.cap
        unfold maxLen at hcap2
        have hpc : ¬ c3 = p := by omega
        have hpc' : ¬ p = c3 := by omega
        obtain ⟨ad, rfl, -, -⟩ := o3.ints.2 (by omega)
        have hvp : vput [] (M : Int) = venc M := by rw [vput_in (by omega) (by omega), Int.toNat_natCast, List.nil_append]
        have HCAN := Lib.hid hcan
        have HVP := Lib.hid hvp
        have hlenM := venc_six hM
        clear hv hcan hvp
        simp only [getV]
        go_wp2
        have f1 : (0 : Int) ≤ (p : Int) := by omega
        have f2 : (p : Int) < (q : Int) := by omega
        have f3 : (q : Int) ≤ (l3.length : Int) := by omega
        have f4 : (q : Int) ≤ (c3 : Int) := by omega
        have f5 : (p : Int) ≤ (q : Int) := by omega
        have hsub : IntsAt .u8 w6 w6.heap.size (some (ad.add p)) (q - p) (venc M) := by
          rw [← HCAN.out]
          exact o3.ints.sub p (q - p) (by omega) _ (fun _ => rfl)
        have HSUB := Lib.hid hsub
        clear hsub
        go_region_held3 (fun _ => True) (trivial) (first
          | (go_at_call 15; refine (impl_AppendUvarint _ 0 0 0 [] (M : Int) _ ⟨rfl, fun h => absurd h (by omega)⟩ (fun _ => ⟨rfl, rfl⟩) (Nat.zero_le _) (by omega)).mono ?_; rw [HVP.out]; rintro e w8 ⟨v8, rfl, hown8, hb8⟩; obtain ⟨A8, c8, rfl⟩ := hown8.sliced)
          | (go_at_call 17; refine (sames_u8 _ _ _ (venc M) _ _ _ _ hown8.ints (ints_laid HSUB.out (below_laid hb8)) (by omega) (by omega)).mono ?_; rintro e w9 ⟨rfl, hb9⟩))
        go_wp2
        go_ret
        have h68 := below_laid hb8
        exact ⟨rfl, (acc.trans (h68.mono acc.size)).trans (hb9.mono (Nat.le_trans acc.size h68.size))⟩
    · rw [if_neg h]
      have HOU := Lib.hid (HOUT.out h)
      rcases (show N < 0 ∨ (¬ N < 0 ∧ 1000000000000 < N) by omega) with h' | ⟨h', h''⟩
      all_goals
        clear h
        go_wp2_with fail
        refine (same_u8 A2 _ c2 _ r A1 _ c1 _ l _ o2.ints o1.ints (by have := HRL.out; omega) (by omega)).mono ?_
        rw [decide_eq_true HOU.out]
        rintro e w4 ⟨rfl, hb⟩
        replace acc := acc.trans (hb.mono acc.size)
        replace o1 := o1.below hb
        replace o2 := o2.below hb
        clear hb
        go_wp2_with fail
        refine (spec_DrawReadUvarint A n c _ zs _ (HB.out.keep fun p hp => acc.cell hp) acc.size (by omega)).mono ?_
        rintro e w5 ⟨v3, l3, a, rfl, hown3, hl3, hby3, ha3, hb⟩
        obtain ⟨A3, c3, rfl⟩ := hown3.sliced
        replace acc := acc.trans (hb.mono acc.size)
        have o3 := Ow.new hown3
        have HBY3 := Lib.hid hby3
        clear hown3 hb o1 o2 hby3
        go_wp2_with fail
        refine (impl_ReadUvarint A3 _ c3 _ l3 a _ o3.ints HBY3.out (by omega) (Nat.le_refl _)).mono ?_
        rintro e w6 ⟨rfl, hb⟩
        replace o3 := o3.below hb
        replace acc := acc.trans (hb.mono acc.size)
        clear hb
        cases hv : vget l3 a with
        | none =>
          have HV := Lib.hid (congrArg getV hv)
          clear hv
          simp only [getV]
          go_wp2_with fail
          refine (spec_ReadUvarint A3 _ c3 _ l3 a _ o3.ints HBY3.out (by omega)).mono ?_
          rintro e w7 ⟨rfl, rfl⟩
          rw [HV.out]
          simp only [getV]
          go_wp2
          go_ret
          exact ⟨rfl, acc⟩
        | some mq =>
          obtain ⟨M, q⟩ := mq
          obtain ⟨hM, hq0, hq⟩ := vget_facts hv
          obtain ⟨p, hp, hpq⟩ := vget_from hv
          subst hp
          have hcan := vget_canon HBY3.out hv
          obtain ⟨hcap1, hcap2⟩ := o3.own.cap
          unfold maxLen at hcap2
          have hpc : ¬ c3 = p := by omega
          have hpc' : ¬ p = c3 := by omega
          obtain ⟨ad, rfl, -, -⟩ := o3.ints.2 (by omega)
          have hvp : vput [] (M : Int) = venc M := by rw [vput_in (by omega) (by omega), Int.toNat_natCast, List.nil_append]
          have HCAN := Lib.hid hcan
          have HVP := Lib.hid hvp
          have hlenM := venc_six hM
          clear hv hcan hvp
          simp only [getV]
          go_wp2
          have f1 : (0 : Int) ≤ (p : Int) := by omega
          have f2 : (p : Int) < (q : Int) := by omega
          have f3 : (q : Int) ≤ (l3.length : Int) := by omega
          have f4 : (q : Int) ≤ (c3 : Int) := by omega
          have f5 : (p : Int) ≤ (q : Int) := by omega
          have hsub : IntsAt .u8 w6 w6.heap.size (some (ad.add p)) (q - p) (venc M) := by
            rw [← HCAN.out]
            exact o3.ints.sub p (q - p) (by omega) _ (fun _ => rfl)
          have HSUB := Lib.hid hsub
          clear hsub
          go_region_held3 (fun _ => True) (trivial) (first
            | (go_at_call 15; refine (impl_AppendUvarint _ 0 0 0 [] (M : Int) _ ⟨rfl, fun h => absurd h (by omega)⟩ (fun _ => ⟨rfl, rfl⟩) (Nat.zero_le _) (by omega)).mono ?_; rw [HVP.out]; rintro e w8 ⟨v8, rfl, hown8, hb8⟩; obtain ⟨A8, c8, rfl⟩ := hown8.sliced)
            | (go_at_call 17; refine (sames_u8 _ _ _ (venc M) _ _ _ _ hown8.ints (ints_laid HSUB.out (below_laid hb8)) (by omega) (by omega)).mono ?_; rintro e w9 ⟨rfl, hb9⟩))
          go_wp2
          go_ret
          have h68 := below_laid hb8
          exact ⟨rfl, (acc.trans (h68.mono acc.size)).trans (hb9.mono (Nat.le_trans acc.size h68.size))⟩
end Go.Proofs.Ytekpopndjcdgiaa
