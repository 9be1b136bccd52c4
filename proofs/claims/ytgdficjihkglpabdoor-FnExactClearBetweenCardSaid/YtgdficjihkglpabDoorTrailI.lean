/- math/bits.TrailingZeros16. -/
import Derived.Test.YtgdficjihkglpabDoorLow
import Derived.Test.YtgdficjihkglpabDoorLawLaid
import Derived.Lib.LaidTab
import Derived.Lib.SmallJoins
namespace Go.Proofs.YtgdficjihkglpabDoor
open Go.RowKit
set_option linter.unusedVariables false

/-- the library's table. -/
def Brus (w : World) : Prop := Lib.TabIs Tryd.prog w "math/bits.deBruijn32tab" .u8 dbTab
theorem bru_global : Tryd.prog.globalNamed "math/bits.deBruijn32tab" = some 0 := by kernel_rfl
theorem Brus.below {w w' : World} {B : Nat} (h : Brus w) (hb : Below B w w') (hB : w.heap.size ≤ B) : Brus w' := Joins.tab_stays bru_global h hb hB
theorem Brus.lt {w : World} (h : Brus w) : 0 < w.heap.size := by
  have h1 := Lib.TabIs.cell h bru_global 0 (by decide)
  exact block_lt_of_cell h1
theorem Brus.under {w w' : World} {B : Nat} (h : Brus w) (hb : Below B w w') (hB : 0 < B) : Brus w' := by
  unfold Brus Lib.TabIs World.var? at *
  rw [bru_global] at *
  simp only [Option.bind_some] at *
  rw [hb.block _ hB]
  exact h
theorem bru_of_laid {laid : List (String × DataW Unit)} {W : World} (hL : laidMetH Tryd.prog laid W)
    (e : (laid.filter fun x => x.1 == "math/bits.deBruijn32tab") = [("math/bits.deBruijn32tab", Lib.tabData .u8 dbTab)]) : Brus W := by
  have h := hL.filter fun x => x.1 == "math/bits.deBruijn32tab"
  rw [e, MakeChecks.laidMetH_plain _ _ _ (by rfl)] at h
  exact Lib.tabIs_of_head bru_global (by kernel_rfl) Tryd.underlying131 Tryd.underlying5 (by kernel_rfl) (by kernel_rfl) h
theorem impl_Trailing16 (m : Nat) (w : World) (h : m < 4096) (h0 : m ≠ 0) (hw : Brus w) : Calls Tryd.prog 91 #[.int .u16 (m : Nat)] w fun e w' => e = .returned (.int .i64 (lowB m : Nat)) ∧ w = w' := by
  obtain ⟨_, _, hl, hn, _⟩ := low_ok h h0
  have ht := dbTab_at ⟨lowB m, hl⟩
  simp only at ht
  obtain ⟨ht1, ht2⟩ := ht
  have hc := Lib.TabIs.cell hw bru_global _ (show 2 ^ lowB m * 125613361 % 4294967296 / 134217728 < dbTab.length from ht2)
  rw [ht1] at hc
  have hne : ((m : Int) == 0) = false := by simp; omega
  have hb := bit_lt hl
  generalize lowB m = i at *
  generalize (2 : Nat) ^ i = x at *
  have i2 : (x : Int) * 125613361 % 4294967296 / 134217728 < 32 := by omega
  have e1 : IntKind.u32.wrap (x : Int) = (x : Int) := by rw [IntKind.wrap_u32]; omega
  clear hw ht1
  go_enter Tryd.func91, Tryd.ntmps91
  go_wp2
  go_ret
  exact ⟨rfl, rfl⟩
end Go.Proofs.YtgdficjihkglpabDoor
