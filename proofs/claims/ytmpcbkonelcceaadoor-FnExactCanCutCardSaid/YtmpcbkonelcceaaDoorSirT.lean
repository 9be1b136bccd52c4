/- The program's table of the sirens' seconds. -/
import Derived.Test.YtmpcbkonelcceaaDoorBndlD
namespace Go.Proofs.YtmpcbkonelcceaaDoor
open Go.RowKit
set_option linter.unusedVariables false

def sirTab : List Int := [0, 4, 7, 4]
/-- the program's table. -/
def Sirs (w : World) : Prop := Lib.TabIs Tryd.prog w "loop.example/g03006/impl.sirenTimes" .i64 sirTab
theorem sir_global : Tryd.prog.globalNamed "loop.example/g03006/impl.sirenTimes" = some 0 := by kernel_rfl
theorem Sirs.below {w w' : World} {B : Nat} (h : Sirs w) (hb : Below B w w') (hB : w.heap.size ≤ B) : Sirs w' := Joins.tab_stays sir_global h hb hB
theorem sirs_of_laid {laid : List (String × DataW Unit)} {W : World} (hL : laidMetH Tryd.prog laid W)
    (e : (laid.filter fun x => x.1 == "loop.example/g03006/impl.sirenTimes") = [("loop.example/g03006/impl.sirenTimes", Lib.tabData .i64 sirTab)]) : Sirs W := by
  have h := hL.filter fun x => x.1 == "loop.example/g03006/impl.sirenTimes"
  rw [e, MakeChecks.laidMetH_plain _ _ _ (by rfl)] at h
  exact Lib.tabIs_of_head sir_global (by kernel_rfl) Tryd.underlying91 Tryd.underlying3 (by kernel_rfl) (by kernel_rfl) h
end Go.Proofs.YtmpcbkonelcceaaDoor
