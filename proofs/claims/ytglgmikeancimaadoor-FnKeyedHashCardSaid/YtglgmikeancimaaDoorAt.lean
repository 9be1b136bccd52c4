/- The laws' own pick of a byte. -/
import Derived.Test.YtglgmikeancimaaDoorRows
import Derived.Test.YtglgmikeancimaaDoorKit
namespace Go.Proofs.YtglgmikeancimaaDoor
open Go.RowKit
set_option linter.unusedVariables false

/-- what 'at' answers. -/
def atI (zs : List Int) (n i : Nat) : Int := if i < n then zs.getD i 0 else ((i * 31 + n * 7) % 256 : Nat)
theorem atI_range {zs : List Int} {n i : Nat} (hl : zs.length = n) (h : ∀ z ∈ zs, 0 ≤ z ∧ z ≤ 255) : 0 ≤ atI zs n i ∧ atI zs n i < 256 := by
  unfold atI
  split
  · rename_i hi
    have hz : 0 ≤ zs.getD i 0 ∧ zs.getD i 0 ≤ 255 := by
      rw [List.getD_eq_getElem?_getD, List.getElem?_eq_getElem (by omega)]
      exact h _ (List.getElem_mem _)
    omega
  · omega
theorem laws_atV (A : Option Addr) (n c B i : Nat) (zs : List Int) (w : World) (hb : Bytes w B A n zs) (hn : n ≤ 1048576) (hi : i ≤ 1000000) :
    Calls Tryd.prog 10 #[.slice A n c, .int .i64 (i : Int)] w fun e w' => e = .returned (.int .i64 (atI zs n i)) ∧ w' = w := by
  have hl := hb.1.1
  by_cases hlt : i < n
  · have HI : Hid (atI zs n i = zs.getD i 0) := Lib.hid (if_pos hlt)
    obtain ⟨ad, rfl, hab, hcell⟩ := hb.1.2 (by omega)
    have hci := hcell i hlt
    have hz : 0 ≤ zs.getD i 0 ∧ zs.getD i 0 ≤ 255 := by
      rw [List.getD_eq_getElem?_getD, List.getElem?_eq_getElem (by omega)]
      exact hb.2 _ (List.getElem_mem _)
    obtain ⟨z1, z2⟩ := hz
    generalize zs.getD i 0 = x at *
    clear hcell
    go_enter Tryd.func10, Tryd.ntmps10
    go_wp2
    go_ret
    exact ⟨by rw [HI.out]; rfl, rfl⟩
  · have HI : Hid (atI zs n i = ((i * 31 + n * 7) % 256 : Nat)) := Lib.hid (if_neg hlt)
    go_enter Tryd.func10, Tryd.ntmps10
    go_wp2
    go_ret
    exact ⟨by rw [HI.out]; exact ret_i (by omega), rfl⟩
theorem laws_at (A : Option Addr) (n c B i : Nat) (zs : List Int) (w : World) (hb : Bytes w B A n zs) (hn : n ≤ 1048576) (hi : i ≤ 1000000) :
    Calls Tryd.prog 10 #[.slice A n c, .int .i64 (i : Int)] w fun e w' => ∃ x : Nat, x < 256 ∧ e = .returned (.int .i64 (x : Int)) ∧ w = w' := by
  have hr := atI_range (i := i) hb.1.1 hb.2
  exact (laws_atV A n c B i zs w hb hn hi).mono fun e w' ⟨he, hw⟩ => ⟨(atI zs n i).toNat, by omega, by rw [he]; exact ret_i (by omega), hw.symm⟩
end Go.Proofs.YtglgmikeancimaaDoor
