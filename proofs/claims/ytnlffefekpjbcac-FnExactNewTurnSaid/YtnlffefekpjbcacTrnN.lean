/- Chapter 24: NewTurn of the program. -/
import Derived.Test.YtnlffefekpjbcacTrn
namespace Go.Proofs.Ytnlffefekpjbcac
open Go.RowKit
set_option linter.unusedVariables false

theorem held_trn (p a : Int) (A : Option Addr) (n c B s : Nat) (w : World) (h : IntsAt .i64 w B A n (marks .i64 s n)) (hB : B ≤ w.heap.size) (hn : n ≤ 1048576) (hs : s ≤ 1048576) :
    Calls Try.prog 17 #[trnV p a (.slice A n c), .int .i64 s] w fun e w' => e = .returned (.int .i64 ((s + n : Nat) : Int)) ∧ Below w.heap.size w w' := by
  simp only [trnV]
  obtain ⟨wA, hwA⟩ : ∃ wA, wA = w.alloc (.cells #[.int .i64 p, .int .i64 a, .slice A n c] 36) := ⟨_, rfl⟩
  obtain ⟨hk, hsz, hB1⟩ := one_block hwA
  have hcc := held_i64 A n c B s wA (h.keep fun _ hp => hB1.cell (Nat.lt_of_lt_of_le hp hB)) (by omega) (by omega)
  have HB := Lib.hid hB1
  have hnn : ((s + n : Nat) : Int) < 0 ↔ False := ⟨fun h => by omega, False.elim⟩
  clear hk hsz hB1 h
  generalize ((s + n : Nat) : Int) = q at *
  have hq : ¬ q < 0 := fun h => hnn.1 h
  clear hnn
  go_enter Try.func17, Try.ntmps17
  go_wp2_with fail
  rw [← hwA]
  refine hcc.mono ?_
  rintro e w1 ⟨rfl, hb1⟩
  clear hwA
  go_wp2
  go_ret
  exact ⟨rfl, HB.out.trans (hb1.mono HB.out.size)⟩
/-- what NewTurn answers. -/
def newT (p a c : Int) : Int × Int × List Int × Bool := if inB p 1 99 && inB a 0 1000000 && inB c 1 8 then (p, a, List.replicate c.toNat 0, true) else (0, 0, [], false)
theorem impl_isPlanNumber (n : Int) (w : World) : Calls Try.prog 29 #[.int .i64 n] w fun e w' => e = .returned (.bool (inB n 1 99)) ∧ w = w' := by
  go_enter Try.func29, Try.ntmps29
  go_wp2_with fail
  refine (impl_InRange _ _ _ _).mono ?_
  rintro e w1 ⟨rfl, rfl⟩
  go_wp2
  go_ret
  exact ⟨rfl, rfl⟩
theorem impl_isCrossingT (n : Int) (w : World) : Calls Try.prog 31 #[.int .i64 n] w fun e w' => e = .returned (.bool (inB n 1 8)) ∧ w = w' := by
  go_enter Try.func31, Try.ntmps31
  go_wp2_with fail
  refine (impl_InRange _ _ _ _).mono ?_
  rintro e w1 ⟨rfl, rfl⟩
  go_wp2
  go_ret
  exact ⟨rfl, rfl⟩
theorem impl_isSecondT (n : Int) (w : World) : Calls Try.prog 30 #[.int .i64 n] w fun e w' => e = .returned (.bool (inB n 0 1000000)) ∧ w = w' := by
  go_enter Try.func30, Try.ntmps30
  go_wp2_with fail
  refine (impl_InRange _ _ _ _).mono ?_
  rintro e w1 ⟨rfl, rfl⟩
  go_wp2
  go_ret
  exact ⟨rfl, rfl⟩
set_option maxHeartbeats 1000000 in
theorem impl_NewTurn (p a c : Int) (w : World) (q1 q2 : Int) (zs : List Int) (b : Bool) (hr : newT p a c = (q1, q2, zs, b)) :
    Calls Try.prog 14 #[.int .i64 p, .int .i64 a, .int .i64 c] w fun e w' => ∃ v, e = .returned (.tuple #[trnV q1 q2 v, .bool b]) ∧ Own .i64 3 w' w.heap.size v zs ∧ Below w.heap.size w w' := by
  have HR := Lib.hid hr
  unfold newT at hr
  simp only [trnV]
  obtain ⟨wA, hwA⟩ : ∃ wA, wA = w.alloc (.cells #[.int .i64 0, .int .i64 0, .slice none 0 0] 36) := ⟨_, rfl⟩
  obtain ⟨hk, hsz, hBA⟩ := one_block hwA
  obtain ⟨z0, z1, z2⟩ := cells3 hk
  have fz : ∀ j, wA.frozen? ⟨w.heap.size, j, none⟩ = false := fun j => frozen_of_row _ _ j _ _ hk
  have HK := Lib.hid hk
  have HB := Lib.hid hBA
  have lt0 : w.heap.size < wA.heap.size := by omega
  clear hk hsz hBA
  cases h1 : inB p 1 99
  rotate_left
  cases h2 : inB a 0 1000000
  rotate_left
  cases h3 : inB c 1 8
  rotate_left
  · rw [h1, h2, h3] at hr
    obtain ⟨l1, l2⟩ := inB_t h3
    simp only [Bool.and_self, if_true, Prod.mk.injEq] at hr
    obtain ⟨rfl, rfl, rfl, rfl⟩ := hr
    obtain ⟨k, rfl⟩ : ∃ k : Nat, c = k := ⟨c.toNat, by omega⟩
    have H1 := Lib.hid h1
    have H2 := Lib.hid h2
    have H3 := Lib.hid h3
    clear h1 h2 h3
    go_enter Try.func14, Try.ntmps14
    go_wp2_with fail
    rw [← hwA]
    clear hwA
    refine (impl_isPlanNumber _ _).mono ?_
    rintro e w1 ⟨rfl, rfl⟩
    rw [H1.out]
    go_wp2_with fail
    refine (impl_isSecondT _ _).mono ?_
    rintro e w1 ⟨rfl, rfl⟩
    rw [H2.out]
    go_wp2_with fail
    refine (impl_isCrossingT _ _).mono ?_
    rintro e w1 ⟨rfl, rfl⟩
    rw [H3.out]
    go_wp2_with ((with_reducible show wpList _ _ _ _ _ _); refine wpList_mk rfl _ _ _ rfl .i64 3 _ Try.underlying34 info_i64 (by decide) (k : Int) (k : Int) k rfl rfl rfl rfl (by omega) ?_; intro w1 hown hgrow; have hk1 := (hgrow.block _ lt0 (by simp)).trans HK.out; obtain ⟨y0, y1, y2⟩ := cells3 hk1; have fy : ∀ j, w1.frozen? ⟨w.heap.size, j, none⟩ = false := (fun j => frozen_of_row _ _ j _ _ hk1); have lt1 : w.heap.size < w1.heap.size := lt_of_block hk1)
    have HW1 := Lib.hid (HB.out.trans ((below_grown hgrow).mono HB.out.size))
    have HOW := Lib.hid ((hown.grown (only_setCell (only_setCell (only_setCell (World.grownBy.refl w1 (some w.heap.size)) 0 (.int .i64 p)) 1 (.int .i64 a)) 2 (.slice (some ⟨wA.heap.size, 0, none⟩) k k)) (fun g e => by simp only [Value.ownBlock, Option.some.injEq] at e; intro h; injection h; omega)).mono (Nat.le_of_lt lt0))
    clear hk1 hown hgrow
    refine bodyPost_ret (by rw [results_cell_tmpF rfl]; go_simp; try rfl) rfl ?_
    exact ⟨_, rfl, HOW.out, ((HW1.out.setCell (Nat.le_refl _) _).setCell (Nat.le_refl _) _).setCell (Nat.le_refl _) _⟩
  all_goals
    have hr2 : q1 = 0 ∧ q2 = 0 ∧ zs = [] ∧ b = false := by
      rw [h1] at hr
      try rw [h2] at hr
      try rw [h3] at hr
      simp at hr
      obtain ⟨e1, e2, e3, e4⟩ := hr
      exact ⟨e1.symm, e2.symm, by first | exact e3.symm | exact e3, by first | exact e4.symm | exact e4⟩
    obtain ⟨rfl, rfl, rfl, rfl⟩ := hr2
    have H1 := Lib.hid h1
    try have H2 := Lib.hid h2
    try have H3 := Lib.hid h3
    clear h1 hr HR
    try clear h2
    try clear h3
    go_enter Try.func14, Try.ntmps14
    go_wp2_with fail
    rw [← hwA]
    clear hwA
    refine (impl_isPlanNumber _ _).mono ?_
    rintro e w1 ⟨rfl, rfl⟩
    rw [H1.out]
    go_wp2_with ((first | (go_at_call 30; refine (impl_isSecondT _ _).mono ?_) | (go_at_call 31; refine (impl_isCrossingT _ _).mono ?_)); rintro e w1 ⟨rfl, rfl⟩; first | rw [H2.out] | rw [H3.out])
    refine bodyPost_ret (by rw [results_cell_tmpF rfl]; go_simp; try rfl) rfl ?_
    exact ⟨_, rfl, own_nil _ _ _ _, ((HB.out.setCell (Nat.le_refl _) _).setCell (Nat.le_refl _) _).setCell (Nat.le_refl _) _⟩
end Go.Proofs.Ytnlffefekpjbcac
