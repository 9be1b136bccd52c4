/- Contracts of the draws of chapter 4. -/
import Derived.Test.YtdlcjmdkafebpaaDraw
import Derived.Test.YtdlcjmdkafebpaaPath
import Derived.Deep.RegionHeld3
namespace Go.Proofs.Ytdlcjmdkafebpaa
open Go.RowKit
set_option linter.unusedVariables false

theorem only_fresh {a w : World} {row : Option Nat} (h : a.grownBy w row) {b o : Nat} (hb : a.heap.size ≤ b) (u : Value) : a.grownBy (w.setCell ⟨b, o, none⟩ u) row :=
  ⟨h.os, h.tape, h.output, by simpa [World.setCell] using h.size, fun k hk hne => (Below.heap_setCell w _ u k (by simp; omega)).trans (h.block k hk hne)⟩
theorem Curs.fresh {w : World} {g b o : Nat} {u : Value} (h : Curs w g) (hb : g < b) : Curs (w.setCell ⟨b, o, none⟩ u) g := h.below ((Below.refl _ _).setCell (by simp; omega) u)
theorem Curs.drew {w : World} {g : Nat} (h : Curs w g) : Curs w.drew g := h.below ⟨rfl, rfl, rfl, Nat.le_refl _, fun _ _ => rfl⟩
theorem only_drew {a w : World} {row : Option Nat} (h : a.grownBy w row) : a.grownBy w.drew row := ⟨h.os, h.tape, h.output, h.size, h.block⟩
theorem wf64 (z : Int) (h : -9223372036854775808 ≤ z ∧ z ≤ 9223372036854775807) : (Lit.int .i64 z).wf = true := by
  show (decide (IntKind.i64.min ≤ z) && decide (z ≤ IntKind.i64.max)) = true
  simp only [Bool.and_eq_true, decide_eq_true_eq]
  exact h
theorem pwf {a b c d : Int} (ha : (Lit.int .i64 a).wf = true) (hb : -9223372036854775808 ≤ b ∧ b ≤ 9223372036854775807) (hc : -9223372036854775808 ≤ c ∧ c ≤ 9223372036854775807) (hd : -9223372036854775808 ≤ d ∧ d ≤ 9223372036854775807) : Pth.wf ⟨a, b, c, d⟩ := ⟨ha, wf64 b hb, wf64 c hc, wf64 d hd⟩
theorem tm4 (a : Int) : -4 < a.tmod 4 ∧ a.tmod 4 < 4 := ⟨Int.lt_tmod_of_pos a (by decide), Int.tmod_lt_of_pos a (by decide)⟩
theorem spec_l4Raw (g : Nat) (w : World) (h : Curs w g) :
    Calls Try.prog 140 #[.pointer (some ⟨g, 0, none⟩)] w fun e w' => ∃ z : Int, (-9223372036854775808 ≤ z ∧ z ≤ 9223372036854775807) ∧ e = .returned (.int .i64 z) ∧ Curs w' g ∧ w.grownBy w' (some g) := by
  have hgl := h.lt
  go_enter Try.func140, Try.ntmps140
  go_wp2_with fail
  refine (spec_l1Int g _ [-1, 0, 4, 7, 20, 21, 9223372036854775807, -9223372036854775808] _ _ _ _ (h.alloc _) rfl (by decide) (heap_alloc_new w _) (by omega) (by decide)).mono ?_
  rintro e w1 ⟨z, hz, rfl, hc1, hg1⟩
  have hr : -9223372036854775808 ≤ z ∧ z ≤ 9223372036854775807 := by
    simp only [List.mem_cons, List.not_mem_nil, or_false] at hz
    omega
  clear hz
  go_wp2
  go_ret
  exact ⟨z, hr, rfl, hc1, only_new hg1⟩
end Go.Proofs.Ytdlcjmdkafebpaa
