/- Interleave: the model. -/
import Derived.Test.YtmcoeafkbpeelaaPath
import Derived.BigQuiet
import Derived.Deep.QuietTactic
namespace Go.Proofs.Ytmcoeafkbpeelaa
open Go.RowKit
set_option linter.unusedVariables false

theorem nat_one (m : Nat) : ((m : Int) == 1) = decide (m = 1) := by
  by_cases h : m = 1
  · subst h; rfl
  · rw [decide_eq_false h]
    have h2 : ¬ ((m : Int) = 1) := by omega
    simpa using h2
theorem ret_val {x y : Int} (h : x = y) : Value.int .i64 x = Value.int .i64 y := by rw [h]
end Go.Proofs.Ytmcoeafkbpeelaa
