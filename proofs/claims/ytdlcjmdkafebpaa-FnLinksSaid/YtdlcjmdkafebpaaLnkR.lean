/- Chapter 23: messages heard in another order lead to the same. No program. -/
import Derived.Test.YtdlcjmdkafebpaaLnkP
namespace Go.Proofs.Ytdlcjmdkafebpaa
open Go.RowKit
set_option linter.unusedVariables false

theorem hearR_yes {a b c d s n o : Int} (h1 : isLnk ⟨a, b, c, d⟩ = true) (h2 : isLnk ⟨a, s, n, o⟩ = true) (h3 : b < s) (h4 : c ≤ n) : (hearL ⟨a, b, c, d⟩ s n o).1 = ⟨a, s, n, o⟩ := by
  unfold hearL
  rw [h1, h2, decide_eq_true h3, decide_eq_true h4]
  rfl
theorem hearR_no {a b c d s n o : Int} (h : ¬ (isLnk ⟨a, b, c, d⟩ = true ∧ isLnk ⟨a, s, n, o⟩ = true ∧ b < s ∧ c ≤ n)) : (hearL ⟨a, b, c, d⟩ s n o).1 = ⟨a, b, c, d⟩ := by
  unfold hearL
  rw [if_neg]
  intro e
  simp only [Bool.and_eq_true, decide_eq_true_eq] at e
  exact h ⟨e.1.1.1, e.1.1.2, e.1.2, e.2⟩
theorem hearR_comm (z : Lnk) (x y n o : Int) : (hearL (hearL z x n o).1 y n o).1 = (hearL (hearL z y n o).1 x n o).1 := by
  obtain ⟨a, b, c, d⟩ := z
  by_cases hx : isLnk ⟨a, b, c, d⟩ = true ∧ isLnk ⟨a, x, n, o⟩ = true ∧ b < x ∧ c ≤ n
  · by_cases hy : isLnk ⟨a, b, c, d⟩ = true ∧ isLnk ⟨a, y, n, o⟩ = true ∧ b < y ∧ c ≤ n
    · rw [hearR_yes hx.1 hx.2.1 hx.2.2.1 hx.2.2.2, hearR_yes hy.1 hy.2.1 hy.2.2.1 hy.2.2.2]
      by_cases h1 : x < y
      · rw [hearR_yes hx.2.1 hy.2.1 h1 (Int.le_refl n), hearR_no (fun h => by omega)]
      · by_cases h2 : y < x
        · rw [hearR_no (fun h => by omega), hearR_yes hy.2.1 hx.2.1 h2 (Int.le_refl n)]
        · obtain rfl : x = y := by omega
          rfl
    · rw [hearR_no hy, hearR_yes hx.1 hx.2.1 hx.2.2.1 hx.2.2.2, hearR_no (fun h => hy ⟨hx.1, h.2.1, by omega, hx.2.2.2⟩)]
  · by_cases hy : isLnk ⟨a, b, c, d⟩ = true ∧ isLnk ⟨a, y, n, o⟩ = true ∧ b < y ∧ c ≤ n
    · rw [hearR_no hx, hearR_yes hy.1 hy.2.1 hy.2.2.1 hy.2.2.2, hearR_no (fun h => hx ⟨hy.1, h.2.1, by omega, hy.2.2.2⟩)]
    · rw [hearR_no hx, hearR_no hy, hearR_no hx]
theorem hearAll_rev (k : Lnk) (zs : List Int) (n o : Int) : hearAll k zs.reverse n o = hearAll k zs n o := by
  unfold hearAll
  exact (List.reverse_perm zs).foldl_eq' (fun x _ y _ z => hearR_comm z x y n o) k
theorem hearR_up (k : Lnk) (s n o : Int) : k.seq ≤ (hearL k s n o).1.seq ∧ k.heard ≤ (hearL k s n o).1.heard := by
  obtain ⟨a, b, c, d⟩ := k
  by_cases h : isLnk ⟨a, b, c, d⟩ = true ∧ isLnk ⟨a, s, n, o⟩ = true ∧ b < s ∧ c ≤ n
  · rw [hearR_yes h.1 h.2.1 h.2.2.1 h.2.2.2]
    exact ⟨Int.le_of_lt h.2.2.1, h.2.2.2⟩
  · rw [hearR_no h]
    exact ⟨Int.le_refl _, Int.le_refl _⟩
theorem hearAll_up (n o : Int) : ∀ (zs : List Int) (k : Lnk), k.seq ≤ (hearAll k zs n o).seq ∧ k.heard ≤ (hearAll k zs n o).heard
  | [], k => ⟨Int.le_refl _, Int.le_refl _⟩
  | s :: zs, k => by
    have h1 := hearR_up k s n o
    have h2 := hearAll_up n o zs (hearL k s n o).1
    exact ⟨Int.le_trans h1.1 h2.1, Int.le_trans h1.2 h2.2⟩
/-- the state never gets better by itself. -/
theorem lkS_up {k : Lnk} {t : Int} (h : k.heard ≤ t) : lkS k t ≤ lkS k (t + 1) := by
  unfold lkS
  split
  · split
    · split <;> (try split) <;> (try split) <;> omega
    · split <;> (try split) <;> (try split) <;> omega
  · split
    · next h1 h2 =>
      exfalso
      apply h1
      simp only [Bool.and_eq_true] at h2 ⊢
      refine ⟨h2.1, ?_⟩
      have := inB_t h2.2
      unfold inB
      simp
      omega
    · omega
theorem lkS_in (k : Lnk) (t : Int) : lkS k t = 0 ∨ lkS k t = 1 ∨ lkS k t = 2 := by
  unfold lkS
  split
  · split
    · exact .inl rfl
    · split
      · exact .inr (.inl rfl)
      · exact .inr (.inr rfl)
  · exact .inr (.inr rfl)
theorem hearR_ok {k : Lnk} {s n o : Int} (h : (hearL k s n o).2 = true) : isLnk (hearL k s n o).1 = true ∧ lkS (hearL k s n o).1 n = 0 := by
  unfold hearL at h ⊢
  by_cases e : (isLnk k && isLnk ⟨k.peer, s, n, o⟩ && decide (k.seq < s) && decide (k.heard ≤ n)) = true
  · rw [if_pos e]
    simp only [Bool.and_eq_true, decide_eq_true_eq] at e
    obtain ⟨⟨⟨e1, e2⟩, e3⟩, e4⟩ := e
    refine ⟨e2, ?_⟩
    have hf := isLnk_facts e2
    simp only at hf
    unfold lkS
    rw [e2, show inB n n 1000000 = true by unfold inB; simp; omega]
    simp
  · rw [if_neg e] at h
    cases h
theorem hearR_not {k : Lnk} {s n o : Int} (h : (hearL k s n o).2 = false) : (hearL k s n o).1 = k := by
  unfold hearL at h ⊢
  by_cases e : (isLnk k && isLnk ⟨k.peer, s, n, o⟩ && decide (k.seq < s) && decide (k.heard ≤ n)) = true
  · rw [if_pos e] at h
    cases h
  · rw [if_neg e]
end Go.Proofs.Ytdlcjmdkafebpaa
