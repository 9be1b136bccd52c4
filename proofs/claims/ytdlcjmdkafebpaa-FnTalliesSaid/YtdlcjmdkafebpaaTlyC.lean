/- Chapter 26: IsTally, Inside: program and model; the street that is counted. -/
import Derived.Test.YtdlcjmdkafebpaaInts
import Derived.Test.YtdlcjmdkafebpaaTly
import Derived.Deep.RegionHeld3
namespace Go.Proofs.Ytdlcjmdkafebpaa
open Go.RowKit
set_option linter.unusedVariables false

/-- what IsTally answers. -/
def isTly (x : Tly) : Bool := inB x.inn 0 1000000 && inB x.out 0 x.inn && inB x.room 0 100 && decide (x.inn - x.out ≤ x.room)
theorem isTly_iff (x : Tly) : isTly x = true ↔ (0 ≤ x.inn ∧ x.inn ≤ 1000000) ∧ (0 ≤ x.out ∧ x.out ≤ x.inn) ∧ (0 ≤ x.room ∧ x.room ≤ 100) ∧ x.inn - x.out ≤ x.room := by
  simp only [isTly, inB, Bool.and_eq_true, decide_eq_true_eq, and_assoc]
theorem isTly_alt (x : Tly) : isTly x = (inB x.inn 0 1000000 && inB x.out 0 1000000 && inB x.room 0 100 && inB (x.inn - x.out) 0 x.room) := by
  rw [Bool.eq_iff_iff, isTly_iff]
  simp only [inB, Bool.and_eq_true, decide_eq_true_eq]
  omega
/-- what Inside answers. -/
def insideT (x : Tly) : Int := if isTly x then x.inn - x.out else -1
/-- a street that is counted, as a value. -/
def cstV (x : Tly) (b : Bool) : Value := .agg #[.int .i64 x.inn, .int .i64 x.out, .int .i64 x.room, .bool b]
theorem far4 {w : World} {g : Nat} {a b c d x : Value} {p : Addr} (h : w.cell? p = some x) (hk : g ≠ p.block) : ((((w.setCell ⟨g, 0, none⟩ a).setCell ⟨g, 1, none⟩ b).setCell ⟨g, 2, none⟩ c).setCell ⟨g, 3, none⟩ d).cell? p = some x := by
  rw [World.cell?_setCell_far _ _ _ _ hk, World.cell?_setCell_far _ _ _ _ hk, World.cell?_setCell_far _ _ _ _ hk, World.cell?_setCell_far _ _ _ _ hk]
  exact h
theorem cst_of_block {w : World} {g : Nat} {x0 x1 x2 x3 : Value} {E : TypeId} {fr : Nat × Nat} (h : w.heap[g]? = some (.cells #[x0, x1, x2, x3] E fr)) : w.cell? ⟨g, 0, none⟩ = some x0 ∧ w.cell? ⟨g, 1, none⟩ = some x1 ∧ w.cell? ⟨g, 2, none⟩ = some x2 ∧ w.cell? ⟨g, 3, none⟩ = some x3 :=
  ⟨by rw [cell_of_row w g 0 _ E fr h]; rfl, by rw [cell_of_row w g _ _ E fr h]; rfl, by rw [cell_of_row w g _ _ E fr h]; rfl, by rw [cell_of_row w g _ _ E fr h]; rfl⟩
set_option maxHeartbeats 1000000 in
theorem impl_IsTally (x : Tly) (w : World) : Calls Try.prog 72 #[x.val] w fun e w' => e = .returned (.bool (isTly x)) ∧ Below w.heap.size w w' := by
  rw [isTly_alt]
  obtain ⟨a, b, c⟩ := x
  simp only [Tly.val]
  have HB := Lib.hid ((Below.refl w.heap.size w).alloc (Nat.le_refl _) (.cells #[.int .i64 a, .int .i64 b, .int .i64 c] 92))
  cases h1 : inB a 0 1000000
  rotate_left
  cases h2 : inB b 0 1000000
  rotate_left
  cases h3 : inB c 0 100
  rotate_left
  · obtain ⟨l1, l2⟩ := inB_t h1
    obtain ⟨l3, l4⟩ := inB_t h2
    have hwr : IntKind.i64.wrap (a - b) = a - b := by rw [IntKind.wrap_i64]; omega
    generalize hv : inB (a - b) 0 c = v
    have H1 := Lib.hid h1
    have H2 := Lib.hid h2
    have H3 := Lib.hid h3
    have H4 := Lib.hid hv
    clear h1 h2 h3 hv
    go_enter Try.func72, Try.ntmps72
    go_wp2_with (go_at_call 122; refine (impl_InRange _ _ _ _).mono ?_; rintro e w' ⟨rfl, rfl⟩; first | rw [H1.out] | rw [H2.out] | rw [H3.out] | rw [H4.out])
    go_ret
    exact ⟨by cases v <;> rfl, HB.out⟩
  all_goals
    have H1 := Lib.hid h1
    try have H2 := Lib.hid h2
    try have H3 := Lib.hid h3
    clear h1
    try clear h2
    try clear h3
    go_enter Try.func72, Try.ntmps72
    go_wp2_with (go_at_call 122; refine (impl_InRange _ _ _ _).mono ?_; rintro e w' ⟨rfl, rfl⟩; first | rw [H1.out] | rw [H2.out] | rw [H3.out])
    go_ret
    exact ⟨rfl, HB.out⟩
set_option maxHeartbeats 1000000 in
theorem impl_streetOf (x : Tly) (w : World) : Calls Try.prog 117 #[x.val] w fun e w' => e = .returned (cstV x (isTly x)) ∧ Below w.heap.size w w' := by
  have hcc := fun y => impl_IsTally x y
  generalize isTly x = v at hcc ⊢
  obtain ⟨a, b, c⟩ := x
  simp only [Tly.val, cstV] at *
  obtain ⟨wA, hwA⟩ : ∃ wA, wA = (w.alloc (.cells #[.int .i64 a, .int .i64 b, .int .i64 c] 92)).alloc (.cells #[.int .i64 0, .int .i64 0, .int .i64 0, .bool false] 157) := ⟨_, rfl⟩
  obtain ⟨hk, hz, hsz, hB⟩ := two_blocks hwA
  have HK := Lib.hid hk
  have HZ := Lib.hid hz
  have HSZ := Lib.hid hsz
  have HB := Lib.hid hB
  obtain ⟨k0, k1, k2⟩ := tly_head (tly_of_block (p := ⟨a, b, c⟩) hk)
  simp only at k0 k1 k2
  have lt0 : w.heap.size < wA.heap.size := by omega
  clear hk hz hsz hB
  go_enter Try.func117, Try.ntmps117
  go_wp2
  rw [← hwA]
  clear hwA
  go_region_held3 (fun W' => W'.cell? ⟨w.heap.size, 0, none⟩ = some (.int .i64 a) ∧ W'.cell? ⟨w.heap.size, 1, none⟩ = some (.int .i64 b) ∧ W'.cell? ⟨w.heap.size, 2, none⟩ = some (.int .i64 c))
    (first | exact ⟨k0, k1, k2⟩ | exact ⟨y0, y1, y2⟩ | exact ⟨far4 y0 (by simp), far4 y1 (by simp), far4 y2 (by simp)⟩ | fail "keep")
    (first
      | (go_at_call 72; refine (hcc _).mono ?_; rintro e w1 ⟨rfl, hb1⟩; have hb1' : Below wA.heap.size wA w1 := below_undrew hb1; have y0 := (hb1'.cell (p := ⟨w.heap.size, 0, none⟩) lt0).trans k0; have y1 := (hb1'.cell (p := ⟨w.heap.size, 1, none⟩) lt0).trans k1; have y2 := (hb1'.cell (p := ⟨w.heap.size, 2, none⟩) lt0).trans k2; have HZ1 := Lib.hid ((hb1'.block _ (by have := HSZ.out; omega)).trans HZ.out); obtain ⟨z0, z1, z2, z3⟩ := cst_of_block HZ1.out; have fz : ∀ j, w1.frozen? ⟨w.heap.size + 1, j, none⟩ = false := fun j => frozen_of_row _ _ j _ _ HZ1.out; have lt1 : w.heap.size + 1 < w1.heap.size := lt_of_block HZ1.out))
  all_goals
    have HB1 := Lib.hid (HB.out.trans (hb1'.mono HB.out.size))
    clear hb1 hb1' y0 y1 y2 k0 k1 k2
    go_wp2
    refine bodyPost_ret (by rw [results_cell rfl]; go_simp; try rfl) rfl ?_
    exact ⟨rfl, ((((HB1.out.setCell (Nat.le_succ _) _).setCell (Nat.le_succ _) _).setCell (Nat.le_succ _) _).setCell (Nat.le_succ _) _)⟩
end Go.Proofs.Ytdlcjmdkafebpaa
