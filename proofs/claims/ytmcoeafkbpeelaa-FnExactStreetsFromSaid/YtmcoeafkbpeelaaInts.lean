/- Contracts of the functions of chapter 1 that only compute with integers: program and model, each against one Lean function. -/
import Derived.Test.YtmcoeafkbpeelaaRows
import Derived.Test.YtmcoeafkbpeelaaKit
namespace Go.Proofs.Ytmcoeafkbpeelaa
open Go.RowKit


def minI (a b : Int) : Int := if b < a then b else a
def maxI (a b : Int) : Int := if a < b then b else a

/-- the test 'a ≤ n ≤ b', closed to the walk. -/
def inB (n a b : Int) : Bool := decide (a ≤ n) && decide (n ≤ b)
theorem impl_InRange (n a b : Int) (w : World) : Calls Try.prog 82 #[.int .i64 n, .int .i64 a, .int .i64 b] w fun e w' => e = .returned (.bool (inB n a b)) ∧ w = w' := by
  unfold inB
  by_cases h1 : a ≤ n
  all_goals
    by_cases h2 : n ≤ b
    all_goals
      go_enter Try.func82, Try.ntmps82
      go_wp2
      go_ret
      exact ⟨by simp [h1, h2], rfl⟩
theorem spec_l1In (n a b : Int) (w : World) : Calls Try.prog 74 #[.int .i64 n, .int .i64 a, .int .i64 b] w fun e w' => e = .returned (.bool (inB n a b)) ∧ w = w' := by
  unfold inB
  by_cases h1 : a ≤ n
  all_goals
    by_cases h2 : n ≤ b
    all_goals
      go_enter Try.func74, Try.ntmps74
      go_wp2
      go_ret
      exact ⟨by simp [h1, h2], rfl⟩
theorem spec_Min (a b : Int) (w : World) : Calls Try.prog 133 #[.int .i64 a, .int .i64 b] w fun e w' => e = .returned (.int .i64 (minI a b)) ∧ w = w' := by
  by_cases h : b < a
  all_goals
    go_enter Try.func133, Try.ntmps133
    go_wp2
    go_ret
    exact ⟨ret_i (by first | (unfold minI; split <;> omega) | (unfold maxI; split <;> omega)), rfl⟩
theorem spec_Max (a b : Int) (w : World) : Calls Try.prog 132 #[.int .i64 a, .int .i64 b] w fun e w' => e = .returned (.int .i64 (maxI a b)) ∧ w = w' := by
  by_cases h : a < b
  all_goals
    go_enter Try.func132, Try.ntmps132
    go_wp2
    go_ret
    exact ⟨ret_i (by first | (unfold minI; split <;> omega) | (unfold maxI; split <;> omega)), rfl⟩
/-- what widen leaves. -/
def widenW (p q : Addr) (l g n : Int) (w : World) : World :=
  if g < n then (if n < l then w.setCell p (.int .i64 n) else w).setCell q (.int .i64 n) else if n < l then w.setCell p (.int .i64 n) else w
theorem widenW_lt {p q : Addr} {l g n : Int} {w : World} (h : n < l) (h2 : ¬ g < n) : widenW p q l g n w = w.setCell p (.int .i64 n) := by unfold widenW; rw [if_neg h2, if_pos h]
theorem widenW_gt {p q : Addr} {l g n : Int} {w : World} (h : ¬ n < l) (h2 : g < n) : widenW p q l g n w = w.setCell q (.int .i64 n) := by unfold widenW; rw [if_pos h2, if_neg h]
theorem widenW_eq {p q : Addr} {l g n : Int} {w : World} (h : ¬ n < l) (h2 : ¬ g < n) : widenW p q l g n w = w := by unfold widenW; rw [if_neg h2, if_neg h]
theorem impl_widen (p q : Addr) (l g n : Int) (w : World) (hl : w.cell? p = some (.int .i64 l)) (hg : w.cell? q = some (.int .i64 g)) (hpq : p ≠ q) (fp : w.frozen? p = false) (fq : w.frozen? q = false) :
    Calls Try.prog 173 #[.pointer (some p), .pointer (some q), .int .i64 n] w fun e w' => e = .returned (.tuple #[]) ∧
      w' = widenW p q l g n w := by
  have hg' : (w.setCell p (.int .i64 n)).cell? q = some (.int .i64 g) := by rw [World.cell?_setCell_other _ _ _ _ hpq]; exact hg
  by_cases h1 : n < l
  all_goals
    by_cases h2 : g < n
    all_goals
      go_enter Try.func173, Try.ntmps173
      go_wp2
      go_end0
      exact ⟨rfl, by unfold widenW; (repeat' split) <;> first | rfl | omega⟩
theorem impl_extremes1 (a r : Int) (b o : Nat) (w : World) (hb : b < w.heap.size) (hc : w.cell? ⟨b, o, none⟩ = some (.int .i64 r)) :
    Calls Try.prog 172 #[.int .i64 a, .slice (some ⟨b, o, none⟩) 1 1] w fun e w' =>
      e = .returned (.tuple #[.int .i64 (minI a r), .int .i64 (maxI a r)]) ∧ Below w.heap.size w w' := by
  by_cases h1 : r < a
  all_goals
    by_cases h2 : a < r
    first | omega | skip
    all_goals
      go_enter Try.func172, Try.ntmps172
      go_wp2
      refine wp_loop_rounds 2 ?_
      rw [rounds_succ]
      go_wp2_with fail
      refine (impl_widen _ _ a a r _ (by go_simp) (by go_simp) (by simp) (by go_simp) (by go_simp)).mono ?_
      rintro e w' ⟨rfl, rfl⟩
      first | rw [widenW_lt (by omega) (by omega)] | rw [widenW_gt (by omega) (by omega)] | rw [widenW_eq (by omega) (by omega)]
      go_wp2
      rw [rounds_succ]
      go_wp2
      go_quiet (fail)
      go_wp2
      go_ret2
      exact ⟨ret_ii (by unfold minI; split <;> omega) (by unfold maxI; split <;> omega), belowN (((Below.refl _ _).alloc (Nat.le_refl _) _).alloc (by simp) _) _⟩
theorem impl_Min (a b : Int) (w : World) : Calls Try.prog 168 #[.int .i64 a, .int .i64 b] w fun e w' => e = .returned (.int .i64 (minI a b)) ∧ Below w.heap.size w w' := by
  go_enter Try.func168, Try.ntmps168
  go_wp2_with fail
  refine (impl_extremes1 a b _ _ _ (by simp) (by go_simp)).mono ?_
  rintro e w' ⟨rfl, hb⟩
  go_wp2
  go_ret
  exact ⟨rfl, ((Below.refl _ _).alloc (Nat.le_refl _) _).trans (hb.mono (by simp))⟩
theorem impl_Max (a b : Int) (w : World) : Calls Try.prog 167 #[.int .i64 a, .int .i64 b] w fun e w' => e = .returned (.int .i64 (maxI a b)) ∧ Below w.heap.size w w' := by
  go_enter Try.func167, Try.ntmps167
  go_wp2_with fail
  refine (impl_extremes1 a b _ _ _ (by simp) (by go_simp)).mono ?_
  rintro e w' ⟨rfl, hb⟩
  go_wp2
  go_ret
  exact ⟨rfl, ((Below.refl _ _).alloc (Nat.le_refl _) _).trans (hb.mono (by simp))⟩
def ceilDiv (a b : Int) : Int := if inB a 0 1000000000000 && inB b 1 1000000000000 then (a + b - 1) / b else 0
def modI (a b : Int) : Int := if inB b 1 1000000000000 then a % b else 0
theorem mod_of_tmod (a b : Int) (hb : 1 ≤ b) : (a.tmod b < 0 → a.tmod b + b = a % b) ∧ (0 ≤ a.tmod b → a.tmod b = a % b) ∧ -b < a.tmod b ∧ a.tmod b < b := by
  have h1 := Int.tmod_lt_of_pos a (show 0 < b by omega)
  have h2 := Int.lt_tmod_of_pos a (show 0 < b by omega)
  have h3 : a % b = a.tmod b % b := by
    have h := Int.tmod_add_mul_tdiv a b
    conv => lhs; rw [← h]
    rw [Int.add_mul_emod_self_left]
  refine ⟨fun h => ?_, fun h => ?_, h2, h1⟩
  · rw [h3]
    have h4 : (a.tmod b + b) % b = a.tmod b % b := by simp
    rw [← h4, Int.emod_eq_of_lt (by omega) (by omega)]
  · rw [h3, Int.emod_eq_of_lt h h1]
theorem inB_t {n a b : Int} (h : inB n a b = true) : a ≤ n ∧ n ≤ b := by simpa [inB] using h
theorem inB_f {n a b : Int} (h : inB n a b = false) : n < a ∨ b < n := by simp [inB] at h; omega
theorem spec_Mod (a b : Int) (w : World) : Calls Try.prog 142 #[.int .i64 a, .int .i64 b] w fun e w' => e = .returned (.int .i64 (modI a b)) ∧ w = w' := by
  unfold modI
  cases h1 : inB b 1 1000000000000
  · have H1 := Lib.hid h1
    clear h1
    go_enter Try.func142, Try.ntmps142
    go_wp2_with (go_at_call 74; refine (spec_l1In _ _ _ _).mono ?_; rintro e w' ⟨rfl, rfl⟩; rw [H1.out])
    go_ret
    exact ⟨by simp, rfl⟩
  · obtain ⟨hb1, hb2⟩ := inB_t h1
    have H1 := Lib.hid h1
    clear h1
    go_enter Try.func142, Try.ntmps142
    go_wp2_with (go_at_call 74; refine (spec_l1In _ _ _ _).mono ?_; rintro e w' ⟨rfl, rfl⟩; rw [H1.out])
    go_ret
    refine ⟨ret_i ?_, rfl⟩
    obtain ⟨m1, m2, m3, m4⟩ := mod_of_tmod a b hb1
    rw [IntWalk.wrap64_in _ (by omega), Int.tmod_eq_emod_of_nonneg (by omega)]
    by_cases hn : a.tmod b < 0
    · rw [m1 hn, Int.emod_emod]
    · rw [← m2 (by omega), Int.add_emod_right, Int.emod_eq_of_lt (by omega) m4]
theorem impl_Mod (a b : Int) (w : World) : Calls Try.prog 170 #[.int .i64 a, .int .i64 b] w fun e w' => e = .returned (.int .i64 (modI a b)) ∧ w = w' := by
  unfold modI
  cases h1 : inB b 1 1000000000000
  · have H1 := Lib.hid h1
    clear h1
    go_enter Try.func170, Try.ntmps170
    go_wp2_with (go_at_call 82; refine (impl_InRange _ _ _ _).mono ?_; rintro e w' ⟨rfl, rfl⟩; rw [H1.out])
    go_ret
    exact ⟨by simp, rfl⟩
  · obtain ⟨hb1, hb2⟩ := inB_t h1
    have H1 := Lib.hid h1
    clear h1
    by_cases hn : a.tmod b < 0
    all_goals
      go_enter Try.func170, Try.ntmps170
      go_wp2_with (go_at_call 82; refine (impl_InRange _ _ _ _).mono ?_; rintro e w' ⟨rfl, rfl⟩; rw [H1.out])
      go_ret
      refine ⟨ret_i ?_, rfl⟩
      obtain ⟨m1, m2, m3, m4⟩ := mod_of_tmod a b hb1
      first | (rw [IntWalk.wrap64_in _ (by omega)]; exact m1 (by omega)) | exact m2 (by omega)
end Go.Proofs.Ytmcoeafkbpeelaa
