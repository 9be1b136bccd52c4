/- The size of a mask: math/bits.OnesCount16. -/
import Derived.Test.YtgdficjihkglpadDoorMask
import Derived.Test.YtgdficjihkglpadDoorKit
namespace Go.Proofs.YtgdficjihkglpadDoor
open Go.RowKit
set_option linter.unusedVariables false

/-- how many bits. -/
def popc (m : Nat) : Nat := ((List.range 12).filter m.testBit).length
def bsum (m : Nat) : Nat := ((List.range 8).filter m.testBit).length
/-- the table of the bits of a byte. -/
abbrev popTab : ByteArray := ⟨#[0, 1, 1, 2, 1, 2, 2, 3, 1, 2, 2, 3, 2, 3, 3, 4, 1, 2, 2, 3, 2, 3, 3, 4, 2, 3, 3, 4, 3, 4, 4, 5, 1, 2, 2, 3, 2, 3, 3, 4, 2, 3, 3, 4, 3, 4, 4, 5, 2, 3, 3, 4, 3, 4, 4, 5, 3, 4, 4, 5, 4, 5, 5, 6, 1, 2, 2, 3, 2, 3, 3, 4, 2, 3, 3, 4, 3, 4, 4, 5, 2, 3, 3, 4, 3, 4, 4, 5, 3, 4, 4, 5, 4, 5, 5, 6, 2, 3, 3, 4, 3, 4, 4, 5, 3, 4, 4, 5, 4, 5, 5, 6, 3, 4, 4, 5, 4, 5, 5, 6, 4, 5, 5, 6, 5, 6, 6, 7, 1, 2, 2, 3, 2, 3, 3, 4, 2, 3, 3, 4, 3, 4, 4, 5, 2, 3, 3, 4, 3, 4, 4, 5, 3, 4, 4, 5, 4, 5, 5, 6, 2, 3, 3, 4, 3, 4, 4, 5, 3, 4, 4, 5, 4, 5, 5, 6, 3, 4, 4, 5, 4, 5, 5, 6, 4, 5, 5, 6, 5, 6, 6, 7, 2, 3, 3, 4, 3, 4, 4, 5, 3, 4, 4, 5, 4, 5, 5, 6, 3, 4, 4, 5, 4, 5, 5, 6, 4, 5, 5, 6, 5, 6, 6, 7, 3, 4, 4, 5, 4, 5, 5, 6, 4, 5, 5, 6, 5, 6, 6, 7, 4, 5, 5, 6, 5, 6, 6, 7, 5, 6, 6, 7, 6, 7, 7, 8]⟩
theorem popTab_size : popTab.size = 256 := by kernel_rfl
theorem popTab_at : ∀ b : Fin 256, (popTab[b.val]'(by rw [popTab_size]; exact b.isLt)).toNat = bsum b.val := by decide +kernel
theorem popc_sum (m : Nat) (h : m < 4096) : popc m = bsum (m / 256) + bsum (m % 256) := by
  have e1 : List.range 12 = List.range 8 ++ (List.range 4).map (8 + ·) := by decide
  have e2 : List.range 8 = List.range 4 ++ (List.range 4).map (4 + ·) := by decide
  have h1 : bsum (m % 256) = ((List.range 8).filter m.testBit).length := by
    unfold bsum
    congr 1
    refine List.filter_congr fun j hj => ?_
    have hj8 := List.mem_range.1 hj
    rw [show (256 : Nat) = 2 ^ 8 from rfl, Nat.testBit_mod_two_pow]
    simp [hj8]
  have h2 : bsum (m / 256) = ((List.range 4).filter (fun j => m.testBit (8 + j))).length := by
    unfold bsum
    rw [e2, List.filter_append, List.length_append]
    have z : ((List.range 4).map (4 + ·)).filter (m / 256).testBit = [] := by
      rw [List.filter_eq_nil_iff]
      intro j hj
      obtain ⟨i, _, rfl⟩ := List.mem_map.1 hj
      rw [show (256 : Nat) = 2 ^ 8 from rfl, Nat.testBit_div_two_pow, Nat.testBit_lt_two_pow (Nat.lt_of_lt_of_le h (Nat.pow_le_pow_right (by decide) (by omega) : 2 ^ 12 ≤ _))]
      simp
    rw [z, List.length_nil, Nat.add_zero]
    congr 1
    refine List.filter_congr fun j _ => ?_
    rw [show (256 : Nat) = 2 ^ 8 from rfl, Nat.testBit_div_two_pow, Nat.add_comm]
  rw [h1, h2]
  unfold popc
  rw [e1, List.filter_append, List.length_append, List.filter_map, List.length_map, Nat.add_comm]
  rfl
theorem bsum_le : ∀ b : Fin 256, bsum b.val ≤ 8 := by decide +kernel
theorem popc_le (m : Nat) : popc m ≤ 12 := by
  unfold popc
  exact Nat.le_trans (List.length_filter_le _ _) (by simp)
theorem pop_sum (m x y : Nat) (h : m < 4096) (hx : m % 256 = x) (hy : (m : Int) / 256 = (y : Int)) (p : y < popTab.size) (q : x < popTab.size) :
    (((popTab[y]'p).toNat : Int) + ((popTab[x]'q).toNat : Int)) % 256 = ((popc m : Nat) : Int) := by
  have hy' : m / 256 = y := by omega
  have h1 := popTab_at ⟨y, by omega⟩
  have h2 := popTab_at ⟨x, by omega⟩
  have h3 := popc_sum m h
  have h4 := bsum_le ⟨y, by omega⟩
  have h5 := bsum_le ⟨x, by omega⟩
  simp only at h1 h2 h4 h5
  rw [hx, hy'] at h3
  rw [h1, h2, h3]
  omega
set_option maxRecDepth 100000 in
theorem impl_OnesCount16 (m : Nat) (w : World) (h : m < 4096) : Calls Tryd.prog 101 #[.int .u16 (m : Nat)] w fun e w' => e = .returned (.int .i64 (popc m : Nat)) ∧ ∃ k, w' = w.drewN k := by
  have b1 : bits .and .u16 (m : Int) 255 = ((m % 256 : Nat) : Int) := by
    rw [show (255 : Int) = ((255 : Nat) : Int) from rfl, u16_and_nat m 255 (by omega) (by decide), nat_mask8]
  have i1 : (0 : Int) ≤ (m : Int) / 256 := by omega
  have i2 : (m : Int) / 256 < 256 := by omega
  have i3 : (0 : Int) ≤ ((m % 256 : Nat) : Int) := by omega
  have i4 : ((m % 256 : Nat) : Int) < 256 := by omega
  obtain ⟨x, hx⟩ : ∃ x, m % 256 = x := ⟨_, rfl⟩
  rw [hx] at b1 i3 i4
  have HX := Lib.hid hx
  obtain ⟨y, hy⟩ : ∃ y : Nat, (m : Int) / 256 = (y : Int) := ⟨m / 256, by simp⟩
  rw [hy] at i1 i2
  have HY := Lib.hid hy
  clear hx
  go_enter Tryd.func101, Tryd.ntmps101
  go_wp2
  go_quiet (fail)
  go_wp2
  go_ret
  exact ⟨ret_i (pop_sum m x y h HX.out HY.out (by rw [popTab_size]; omega) (by rw [popTab_size]; omega)), _, rfl⟩
theorem impl_size (m : Nat) (w : World) (h : m < 4096) : Calls Tryd.prog 73 #[.int .u16 (m : Nat)] w fun e w' => e = .returned (.int .i64 (popc m : Nat)) ∧ ∃ k, w' = w.drewN k := by
  go_enter Tryd.func73, Tryd.ntmps73
  go_wp2_with fail
  refine (impl_OnesCount16 m _ h).mono ?_
  rintro e w1 ⟨rfl, k, rfl⟩
  go_wp2
  go_ret
  exact ⟨rfl, k, rfl⟩
end Go.Proofs.YtgdficjihkglpadDoor
