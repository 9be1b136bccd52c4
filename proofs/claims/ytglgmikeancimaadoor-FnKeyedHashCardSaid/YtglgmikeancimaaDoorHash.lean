/- Chapter 3's hashes: program and model. -/
import Derived.Test.YtglgmikeancimaaDoorCrypt
import Derived.Test.YtglgmikeancimaaDoorInts
import Derived.Test.YtglgmikeancimaaDoorMem
namespace Go.Proofs.YtglgmikeancimaaDoor
open Go.RowKit
set_option linter.unusedVariables false

theorem modI_p (v : Int) : modI v 2147483647 = v % 2147483647 := rfl
theorem hash_step {d r : Int} (hd : 0 ≤ d ∧ d < 2147483647) (hr : 0 ≤ r ∧ r < 2147483647) : wrap64 (wrap64 (wrap64 (d * 1000003) + r) + 13) = d * 1000003 + r + 13 ∧ 0 ≤ d * 1000003 + r + 13 := by
  rw [IntWalk.wrap64_in (d * 1000003) (by omega), IntWalk.wrap64_in (d * 1000003 + r) (by omega), IntWalk.wrap64_in _ (by omega)]
  omega
theorem impl_fold (d v : Int) (w : World) (hd : 0 ≤ d ∧ d < 2147483647) :
    Calls Tryd.prog 20 #[.int .i64 d, .int .i64 v] w fun e w' => e = .returned (.int .i64 (hstep d v)) ∧ w = w' := by
  obtain ⟨h1, h2⟩ := hd
  have hr := Int.emod_nonneg v (show (2147483647 : Int) ≠ 0 by decide)
  have hr2 := Int.emod_lt_of_pos v (show (0 : Int) < 2147483647 by decide)
  have HS : Hid (hstep d v = (d * 1000003 + v % 2147483647 + 13) % 2147483647) := Lib.hid rfl
  go_enter Tryd.func20, Tryd.ntmps20
  go_wp2_with fail
  refine (impl_Mod v 2147483647 _).mono ?_
  rintro e w1 ⟨rfl, rfl⟩
  rw [modI_p]
  generalize v % 2147483647 = r at *
  go_wp2
  go_ret
  exact ⟨ret_i (by rw [HS.out]), rfl⟩
theorem foldl_take {vs : List Int} {k : Nat} (d : Int) (h : k < vs.length) : (vs.take (k + 1)).foldl hstep d = hstep ((vs.take k).foldl hstep d) (vs.getD k 0) := by
  rw [List.take_add_one, List.foldl_append, List.getD_eq_getElem?_getD, List.getElem?_eq_getElem h]
  rfl
theorem impl_foldAll (d : Int) (A : Option Addr) (n c B : Nat) (vs : List Int) (w : World) (hd : 0 ≤ d ∧ d < 2147483647) (h : IntsAt .i64 w B A n vs) (hn : n ≤ 4398046511104) :
    Calls Tryd.prog 21 #[.int .i64 d, .slice A n c] w fun e w' => e = .returned (.int .i64 (vs.foldl hstep d)) ∧ w = w' := by
  have hl := h.1
  go_enter Tryd.func21, Tryd.ntmps21
  go_wp2
  go_loop [0, 9] (fun x i => ∃ k : Nat, k ≤ n ∧ i = .int .i64 k ∧ x = .int .i64 ((vs.take k).foldl hstep d)) (fun _ i => n - (intOf i).toNat)
  case atStart => exact ⟨0, Nat.zero_le _, rfl, by simp⟩
  case round =>
    obtain ⟨k, hk, rfl, rfl⟩ := hrel
    by_cases hlt : k < n
    · obtain ⟨ad, rfl, hab, hcell⟩ := h.2 (by omega)
      have hc := hcell k hlt
      have HS := Lib.hid (foldl_take d (show k < vs.length by omega))
      have HR := Lib.hid (hash_fold_range (vs.take k) d hd)
      clear hcell
      generalize (vs.take k).foldl hstep d = x at *
      generalize vs.getD k 0 = z at *
      go_wp2_with fail
      refine (impl_fold x z _ HR.out).mono ?_
      rintro e w1 ⟨rfl, rfl⟩
      go_wp2
      go_round
      case rel => exact ⟨k + 1, by omega, by go_num, by rw [HS.out]⟩
      case measure => simp [intOf]; omega
    · obtain rfl : k = n := by omega
      rw [List.take_of_length_le (by omega)]
      go_wp2
      go_ret
      exact ⟨rfl, rfl⟩
theorem impl_Hash (A : Option Addr) (n c B : Nat) (vs : List Int) (w : World) (h : IntsAt .i64 w B A n vs) (hn : n ≤ 4398046511104) :
    Calls Tryd.prog 9 #[.slice A n c] w fun e w' => e = .returned (.int .i64 (hashI vs)) ∧ w = w' := by
  go_enter Tryd.func9, Tryd.ntmps9
  go_wp2_with fail
  refine (impl_foldAll 11 A n c B vs _ (by decide) h hn).mono ?_
  rintro e w1 ⟨rfl, rfl⟩
  go_wp2
  go_ret
  exact ⟨rfl, rfl⟩
theorem khash_eq (k : Int) (vs : List Int) : khash k vs = hstep (vs.foldl hstep (hstep 11 k)) k := by
  unfold khash hashI
  rw [List.foldl_cons, List.foldl_append]
  rfl
theorem impl_KeyedHash (a : Int) (A : Option Addr) (n c B : Nat) (vs : List Int) (w : World) (h : IntsAt .i64 w B A n vs) (hn : n ≤ 4398046511104) :
    Calls Tryd.prog 8 #[.int .i64 a, .slice A n c] w fun e w' => e = .returned (.int .i64 (khash a vs)) ∧ w = w' := by
  have HE := Lib.hid (khash_eq a vs)
  go_enter Tryd.func8, Tryd.ntmps8
  go_wp2_with fail
  refine (impl_fold 11 a _ (by decide)).mono ?_
  rintro e w1 ⟨rfl, rfl⟩
  go_wp2_with fail
  refine (impl_foldAll _ A n c B vs _ (hstep_range _ _) h hn).mono ?_
  rintro e w1 ⟨rfl, rfl⟩
  go_wp2_with fail
  refine (impl_fold _ a _ (hash_fold_range _ _ (hstep_range _ _))).mono ?_
  rintro e w1 ⟨rfl, rfl⟩
  go_wp2
  go_ret
  exact ⟨by rw [HE.out]; rfl, rfl⟩
theorem spec_Hash (A : Option Addr) (n c B : Nat) (vs : List Int) (w : World) (h : IntsAt .i64 w B A n vs) (hn : n ≤ 4398046511104) :
    Calls Tryd.prog 36 #[.slice A n c] w fun e w' => e = .returned (.int .i64 (hashI vs)) ∧ w = w' := by
  have hl := h.1
  go_enter Tryd.func36, Tryd.ntmps36
  go_wp2
  go_loop [3, 4] (fun x i => ∃ k : Nat, k ≤ n ∧ i = .int .i64 k ∧ x = .int .i64 (hashI (vs.take k))) (fun _ i => n - (intOf i).toNat)
  case atStart => exact ⟨0, Nat.zero_le _, rfl, rfl⟩
  case round =>
    obtain ⟨k, hk, rfl, rfl⟩ := hrel
    by_cases hlt : k < n
    · obtain ⟨ad, rfl, hab, hcell⟩ := h.2 (by omega)
      have hc := hcell k hlt
      have HS := Lib.hid (hashI_take (show k < vs.length by omega))
      obtain ⟨g1, g2⟩ := hashI_range (vs.take k)
      clear hcell
      generalize hashI (vs.take k) = x at *
      generalize vs.getD k 0 = z at *
      have HZ : Hid (hstep x z = (x * 1000003 + z % 2147483647 + 13) % 2147483647) := Lib.hid rfl
      have hr := Int.emod_nonneg z (show (2147483647 : Int) ≠ 0 by decide)
      have hr2 := Int.emod_lt_of_pos z (show (0 : Int) < 2147483647 by decide)
      go_wp2_with fail
      refine (spec_Mod z 2147483647 _).mono ?_
      rintro e w1 ⟨rfl, rfl⟩
      rw [modI_p]
      generalize z % 2147483647 = r at *
      go_wp2
      go_round
      case rel => exact ⟨k + 1, by omega, by go_num, by rw [HS.out, HZ.out]⟩
      case measure => simp [intOf]; omega
    · obtain rfl : k = n := by omega
      rw [hashI_all hl]
      go_wp2
      go_ret
      exact ⟨rfl, rfl⟩
theorem spec_KeyedHash (a : Int) (A : Option Addr) (n c B : Nat) (vs : List Int) (w : World) (h : IntsAt .i64 w B A n vs) (hA : A = none → n = 0 ∧ c = 0) (hB : B ≤ w.heap.size) (hn : n ≤ 1099511627776) :
    Calls Tryd.prog 28 #[.int .i64 a, .slice A n c] w fun e w' => e = .returned (.int .i64 (khash a vs)) ∧ Below w.heap.size w w' := by
  have hl := h.1
  have own0 : Own .i64 3 (w.alloc (.cells #[.int .i64 a] 3)) w.heap.size (.slice (some ⟨w.heap.size, 0, none⟩) 1 1) [a] := own_lit w [a] 1 (Nat.le_refl _) (by decide) rfl
  go_enter Tryd.func28, Tryd.ntmps28
  go_wp2_with (first
    | (at_builtin; refine wpList_app rfl _ _ 24 24 rfl .i64 3 3 8 Tryd.underlying24 Tryd.underlying24 info_i64 w.heap.size _ [a] rfl own0 A n c B vs rfl (h.keep fun p hp => World.cell?_of_block (Below.heap_alloc w _ _ (by omega))) hA (by decide) (by simp; omega) (by simp) ?_; intro v1 w1 hown1 hgrow1 hat1; have hb1 := own0.push (Nat.le_refl _) ((Below.refl _ _).alloc (Nat.le_refl _) _) (by simp) hgrow1; have hs1 := hb1.size)
    | (at_builtin; refine wpList_app1 rfl _ _ 24 rfl .i64 3 8 Tryd.underlying24 info_i64 w.heap.size _ _ rfl hown1 (by decide) (by simp; omega) _ _ _ w1.heap.size hs1 rfl (by simp) ?_; intro v2 w2 hown2 hgrow2 hat2))
  have hb2 := hown1.push (Nat.le_refl _) (hb1.alloc hs1 _) (by simp; omega) hgrow2
  obtain ⟨A2, c2, rfl⟩ := hown2.sliced
  go_wp2_with fail
  refine (spec_Hash A2 _ c2 _ _ _ hown2.ints (by simp; omega)).mono ?_
  rintro e w3 ⟨rfl, rfl⟩
  go_wp2
  go_ret
  exact ⟨rfl, hb2⟩
end Go.Proofs.YtglgmikeancimaaDoor
