/- Chapter 36: WaitBound: program and model. -/
import Derived.Test.YtdgpodopkfnpeabDoorClrM
import Derived.Test.YtdgpodopkfnpeabDoorClrT
import Derived.Test.YtdgpodopkfnpeabDoorPthM
namespace Go.Proofs.YtdgpodopkfnpeabDoor
open Go.RowKit
set_option linter.unusedVariables false

def waitB (zs : List Pth) : Int := ((zs.length : Int) + 1) * (60 + longC zs + 20 + 1)
theorem longC_bound (zs : List Pth) : 0 ≤ longC zs ∧ longC zs ≤ 5 := by
  unfold longC
  split
  · exact mostTo_bound _ _
  · omega
theorem spec_WaitBound (A : Option Addr) (n c B : Nat) (zs : List Pth) (w : World) (h : PthsAt w B A n zs) (hB : B ≤ w.heap.size) (hn : n ≤ 1048576) :
    Calls Tryd.prog 9 #[.slice A n c] w fun e w' => e = .returned (.int .i64 (waitB zs)) ∧ Below w.heap.size w w' := by
  have hl := h.1
  have hcc := spec_LongestClear A n c B zs w h hB (by omega)
  obtain ⟨b1, b2⟩ := longC_bound zs
  have HV : Hid (waitB zs = ((n : Int) + 1) * (60 + longC zs + 20 + 1)) := Lib.hid (by unfold waitB; rw [hl])
  generalize longC zs = L at *
  have hw1 : 0 ≤ ((n : Int) + 1) * (60 + L + 20 + 1) := Int.mul_nonneg (by omega) (by omega)
  have hw2 : ((n : Int) + 1) * (60 + L + 20 + 1) ≤ 1048577 * 86 := Int.mul_le_mul (by omega) (by omega) (by omega) (by omega)
  have hw3 : IntKind.i64.wrap (((n : Int) + 1) * (60 + L + 20 + 1)) = ((n : Int) + 1) * (60 + L + 20 + 1) := by rw [IntKind.wrap_i64]; omega
  go_enter Tryd.func9, Tryd.ntmps9
  go_wp2_with fail
  refine hcc.mono ?_
  rintro e w1 ⟨rfl, hb1⟩
  go_wp2
  go_ret
  exact ⟨by rw [HV.out]; try rfl, hb1⟩
theorem impl_WaitBound (A : Option Addr) (n c B : Nat) (zs : List Pth) (w : World) (h : PthsAt w B A n zs) (hB : B ≤ w.heap.size) (hn : n ≤ 1048576) (hv : Clrs w) :
    Calls Tryd.prog 11 #[.slice A n c] w fun e w' => e = .returned (.int .i64 (waitB zs)) ∧ Below w.heap.size w w' := by
  have hl := h.1
  have hcc := impl_LongestClear A n c B zs w h hB (by omega) hv
  obtain ⟨b1, b2⟩ := longC_bound zs
  have HV : Hid (waitB zs = ((n : Int) + 1) * (60 + longC zs + 20 + 1)) := Lib.hid (by unfold waitB; rw [hl])
  generalize longC zs = L at *
  have hw1 : 0 ≤ ((n : Int) + 1) * (60 + L + 20 + 1) := Int.mul_nonneg (by omega) (by omega)
  have hw2 : ((n : Int) + 1) * (60 + L + 20 + 1) ≤ 1048577 * 86 := Int.mul_le_mul (by omega) (by omega) (by omega) (by omega)
  have hw3 : IntKind.i64.wrap (((n : Int) + 1) * (60 + L + 20 + 1)) = ((n : Int) + 1) * (60 + L + 20 + 1) := by rw [IntKind.wrap_i64]; omega
  go_enter Tryd.func11, Tryd.ntmps11
  go_wp2_with fail
  refine hcc.mono ?_
  rintro e w1 ⟨rfl, hb1⟩
  go_wp2
  go_ret
  exact ⟨by rw [HV.out]; try rfl, hb1⟩
end Go.Proofs.YtdgpodopkfnpeabDoor
