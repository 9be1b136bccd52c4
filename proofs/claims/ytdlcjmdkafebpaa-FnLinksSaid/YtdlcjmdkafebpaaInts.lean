/- Contracts of the functions of chapter 1 that only compute with integers: program and model, each against one Lean function. -/
import Derived.Test.YtdlcjmdkafebpaaRows
import Derived.Test.YtdlcjmdkafebpaaKit
namespace Go.Proofs.Ytdlcjmdkafebpaa
open Go.RowKit


def minI (a b : Int) : Int := if b < a then b else a
def maxI (a b : Int) : Int := if a < b then b else a

/-- the test 'a ≤ n ≤ b', closed to the walk. -/
def inB (n a b : Int) : Bool := decide (a ≤ n) && decide (n ≤ b)
theorem impl_InRange (n a b : Int) (w : World) : Calls Try.prog 122 #[.int .i64 n, .int .i64 a, .int .i64 b] w fun e w' => e = .returned (.bool (inB n a b)) ∧ w = w' := by
  unfold inB
  by_cases h1 : a ≤ n
  all_goals
    by_cases h2 : n ≤ b
    all_goals
      go_enter Try.func122, Try.ntmps122
      go_wp2
      go_ret
      exact ⟨by simp [h1, h2], rfl⟩
theorem spec_l1In (n a b : Int) (w : World) : Calls Try.prog 85 #[.int .i64 n, .int .i64 a, .int .i64 b] w fun e w' => e = .returned (.bool (inB n a b)) ∧ w = w' := by
  unfold inB
  by_cases h1 : a ≤ n
  all_goals
    by_cases h2 : n ≤ b
    all_goals
      go_enter Try.func85, Try.ntmps85
      go_wp2
      go_ret
      exact ⟨by simp [h1, h2], rfl⟩
/-- what widen leaves. -/
def widenW (p q : Addr) (l g n : Int) (w : World) : World :=
  if g < n then (if n < l then w.setCell p (.int .i64 n) else w).setCell q (.int .i64 n) else if n < l then w.setCell p (.int .i64 n) else w
theorem widenW_lt {p q : Addr} {l g n : Int} {w : World} (h : n < l) (h2 : ¬ g < n) : widenW p q l g n w = w.setCell p (.int .i64 n) := by unfold widenW; rw [if_neg h2, if_pos h]
theorem widenW_gt {p q : Addr} {l g n : Int} {w : World} (h : ¬ n < l) (h2 : g < n) : widenW p q l g n w = w.setCell q (.int .i64 n) := by unfold widenW; rw [if_pos h2, if_neg h]
theorem widenW_eq {p q : Addr} {l g n : Int} {w : World} (h : ¬ n < l) (h2 : ¬ g < n) : widenW p q l g n w = w := by unfold widenW; rw [if_neg h2, if_neg h]
theorem impl_widen (p q : Addr) (l g n : Int) (w : World) (hl : w.cell? p = some (.int .i64 l)) (hg : w.cell? q = some (.int .i64 g)) (hpq : p ≠ q) (fp : w.frozen? p = false) (fq : w.frozen? q = false) :
    Calls Try.prog 150 #[.pointer (some p), .pointer (some q), .int .i64 n] w fun e w' => e = .returned (.tuple #[]) ∧
      w' = widenW p q l g n w := by
  have hg' : (w.setCell p (.int .i64 n)).cell? q = some (.int .i64 g) := by rw [World.cell?_setCell_other _ _ _ _ hpq]; exact hg
  by_cases h1 : n < l
  all_goals
    by_cases h2 : g < n
    all_goals
      go_enter Try.func150, Try.ntmps150
      go_wp2
      go_end0
      exact ⟨rfl, by unfold widenW; (repeat' split) <;> first | rfl | omega⟩
theorem impl_extremes1 (a r : Int) (b o : Nat) (w : World) (hb : b < w.heap.size) (hc : w.cell? ⟨b, o, none⟩ = some (.int .i64 r)) :
    Calls Try.prog 144 #[.int .i64 a, .slice (some ⟨b, o, none⟩) 1 1] w fun e w' =>
      e = .returned (.tuple #[.int .i64 (minI a r), .int .i64 (maxI a r)]) ∧ Below w.heap.size w w' := by
  by_cases h1 : r < a
  all_goals
    by_cases h2 : a < r
    first | omega | skip
    all_goals
      go_enter Try.func144, Try.ntmps144
      go_wp2
      refine wp_loop_rounds 2 ?_
      rw [rounds_succ]
      go_wp2_with fail
      refine (impl_widen _ _ a a r _ (by go_simp) (by go_simp) (by simp) (by go_simp) (by go_simp)).mono ?_
      rintro e w' ⟨rfl, rfl⟩
      first | rw [widenW_lt (by omega) (by omega)] | rw [widenW_gt (by omega) (by omega)] | rw [widenW_eq (by omega) (by omega)]
      go_wp2
      rw [rounds_succ]
      go_wp2
      go_quiet (fail)
      go_wp2
      go_ret2
      exact ⟨ret_ii (by unfold minI; split <;> omega) (by unfold maxI; split <;> omega), belowN (((Below.refl _ _).alloc (Nat.le_refl _) _).alloc (by simp) _) _⟩
theorem impl_Max (a b : Int) (w : World) : Calls Try.prog 123 #[.int .i64 a, .int .i64 b] w fun e w' => e = .returned (.int .i64 (maxI a b)) ∧ Below w.heap.size w w' := by
  go_enter Try.func123, Try.ntmps123
  go_wp2_with fail
  refine (impl_extremes1 a b _ _ _ (by simp) (by go_simp)).mono ?_
  rintro e w' ⟨rfl, hb⟩
  go_wp2
  go_ret
  exact ⟨rfl, ((Below.refl _ _).alloc (Nat.le_refl _) _).trans (hb.mono (by simp))⟩
def ceilDiv (a b : Int) : Int := if inB a 0 1000000000000 && inB b 1 1000000000000 then (a + b - 1) / b else 0
def modI (a b : Int) : Int := if inB b 1 1000000000000 then a % b else 0
theorem mod_of_tmod (a b : Int) (hb : 1 ≤ b) : (a.tmod b < 0 → a.tmod b + b = a % b) ∧ (0 ≤ a.tmod b → a.tmod b = a % b) ∧ -b < a.tmod b ∧ a.tmod b < b := by
  have h1 := Int.tmod_lt_of_pos a (show 0 < b by omega)
  have h2 := Int.lt_tmod_of_pos a (show 0 < b by omega)
  have h3 : a % b = a.tmod b % b := by
    have h := Int.tmod_add_mul_tdiv a b
    conv => lhs; rw [← h]
    rw [Int.add_mul_emod_self_left]
  refine ⟨fun h => ?_, fun h => ?_, h2, h1⟩
  · rw [h3]
    have h4 : (a.tmod b + b) % b = a.tmod b % b := by simp
    rw [← h4, Int.emod_eq_of_lt (by omega) (by omega)]
  · rw [h3, Int.emod_eq_of_lt h h1]
theorem inB_t {n a b : Int} (h : inB n a b = true) : a ≤ n ∧ n ≤ b := by simpa [inB] using h
theorem inB_f {n a b : Int} (h : inB n a b = false) : n < a ∨ b < n := by simp [inB] at h; omega
end Go.Proofs.Ytdlcjmdkafebpaa
