/- Contracts of the functions of chapter 1 that only compute with integers: program and model, each against one Lean function. -/
import Derived.Test.YtnlffefekpjbcacRows
import Derived.Test.YtnlffefekpjbcacKit
namespace Go.Proofs.Ytnlffefekpjbcac
open Go.RowKit


def minI (a b : Int) : Int := if b < a then b else a
def maxI (a b : Int) : Int := if a < b then b else a

/-- the test 'a ≤ n ≤ b', closed to the walk. -/
def inB (n a b : Int) : Bool := decide (a ≤ n) && decide (n ≤ b)
theorem impl_InRange (n a b : Int) (w : World) : Calls Try.prog 25 #[.int .i64 n, .int .i64 a, .int .i64 b] w fun e w' => e = .returned (.bool (inB n a b)) ∧ w = w' := by
  unfold inB
  by_cases h1 : a ≤ n
  all_goals
    by_cases h2 : n ≤ b
    all_goals
      go_enter Try.func25, Try.ntmps25
      go_wp2
      go_ret
      exact ⟨by simp [h1, h2], rfl⟩
theorem spec_l1In (n a b : Int) (w : World) : Calls Try.prog 19 #[.int .i64 n, .int .i64 a, .int .i64 b] w fun e w' => e = .returned (.bool (inB n a b)) ∧ w = w' := by
  unfold inB
  by_cases h1 : a ≤ n
  all_goals
    by_cases h2 : n ≤ b
    all_goals
      go_enter Try.func19, Try.ntmps19
      go_wp2
      go_ret
      exact ⟨by simp [h1, h2], rfl⟩
/-- what widen leaves. -/
def widenW (p q : Addr) (l g n : Int) (w : World) : World :=
  if g < n then (if n < l then w.setCell p (.int .i64 n) else w).setCell q (.int .i64 n) else if n < l then w.setCell p (.int .i64 n) else w
theorem widenW_lt {p q : Addr} {l g n : Int} {w : World} (h : n < l) (h2 : ¬ g < n) : widenW p q l g n w = w.setCell p (.int .i64 n) := by unfold widenW; rw [if_neg h2, if_pos h]
theorem widenW_gt {p q : Addr} {l g n : Int} {w : World} (h : ¬ n < l) (h2 : g < n) : widenW p q l g n w = w.setCell q (.int .i64 n) := by unfold widenW; rw [if_pos h2, if_neg h]
theorem widenW_eq {p q : Addr} {l g n : Int} {w : World} (h : ¬ n < l) (h2 : ¬ g < n) : widenW p q l g n w = w := by unfold widenW; rw [if_neg h2, if_neg h]
def ceilDiv (a b : Int) : Int := if inB a 0 1000000000000 && inB b 1 1000000000000 then (a + b - 1) / b else 0
def modI (a b : Int) : Int := if inB b 1 1000000000000 then a % b else 0
theorem mod_of_tmod (a b : Int) (hb : 1 ≤ b) : (a.tmod b < 0 → a.tmod b + b = a % b) ∧ (0 ≤ a.tmod b → a.tmod b = a % b) ∧ -b < a.tmod b ∧ a.tmod b < b := by
  have h1 := Int.tmod_lt_of_pos a (show 0 < b by omega)
  have h2 := Int.lt_tmod_of_pos a (show 0 < b by omega)
  have h3 : a % b = a.tmod b % b := by
    have h := Int.tmod_add_mul_tdiv a b
    conv => lhs; rw [← h]
    rw [Int.add_mul_emod_self_left]
  refine ⟨fun h => ?_, fun h => ?_, h2, h1⟩
  · rw [h3]
    have h4 : (a.tmod b + b) % b = a.tmod b % b := by simp
    rw [← h4, Int.emod_eq_of_lt (by omega) (by omega)]
  · rw [h3, Int.emod_eq_of_lt h h1]
theorem inB_t {n a b : Int} (h : inB n a b = true) : a ≤ n ∧ n ≤ b := by simpa [inB] using h
theorem inB_f {n a b : Int} (h : inB n a b = false) : n < a ∨ b < n := by simp [inB] at h; omega
end Go.Proofs.Ytnlffefekpjbcac
