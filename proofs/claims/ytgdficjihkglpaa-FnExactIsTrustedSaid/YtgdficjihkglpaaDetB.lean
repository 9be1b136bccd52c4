/- AreDetectors: the set of the paths that have been met. No walk. -/
import Derived.Test.YtgdficjihkglpaaDemP
import Derived.Test.YtgdficjihkglpaaMask
import Derived.Test.YtgdficjihkglpaaLstP
namespace Go.Proofs.Ytgdficjihkglpaa
open Go.RowKit
set_option linter.unusedVariables false

/-- the paths of the first k detectors. -/
def metD (ps : List Pth) (ds : List Det) (k : Nat) : Nat := maskF (fun j => (List.range k).any fun i => decide (findK (dAt ds i).path ps = some j)) 12
theorem metD_lt (ps : List Pth) (ds : List Det) (k : Nat) : metD ps ds k < 4096 := maskF_lt _ 12
theorem metD_zero (ps : List Pth) (ds : List Det) : metD ps ds 0 = 0 := mask_ext fun j => by unfold metD; rw [maskF_bit]; simp
theorem metD_bit (ps : List Pth) (ds : List Det) (k j : Nat) : (metD ps ds k).testBit j = true ↔ j < 12 ∧ ∃ i, i < k ∧ findK (dAt ds i).path ps = some j := by
  unfold metD
  rw [maskF_bit, Bool.and_eq_true, decide_eq_true_eq, List.any_eq_true]
  simp only [List.mem_range, decide_eq_true_eq]
theorem metD_step {ps : List Pth} {ds : List Det} {k i : Nat} (h : findK (dAt ds k).path ps = some i) (hi : i < 12) : metD ps ds (k + 1) = metD ps ds k ||| 2 ^ i := mask_ext fun j => by
  rw [Bool.eq_iff_iff, metD_bit, Nat.testBit_or, Bool.or_eq_true, metD_bit, Nat.testBit_two_pow, decide_eq_true_eq]
  constructor
  · rintro ⟨h1, x, hx, e⟩
    by_cases exk : x = k
    · subst exk; rw [h] at e; exact .inr (Option.some.inj e)
    · exact .inl ⟨h1, x, by omega, e⟩
  · rintro (⟨h1, x, hx, e⟩ | rfl)
    · exact ⟨h1, x, by omega, e⟩
    · exact ⟨hi, k, by omega, h⟩
theorem and_pow_zero (m i : Nat) : m &&& 2 ^ i = 0 ↔ m.testBit i = false := by
  constructor
  · intro h
    have e : (m &&& 2 ^ i).testBit i = false := by rw [h]; exact Nat.zero_testBit i
    rw [Nat.testBit_and, Nat.testBit_two_pow, decide_eq_true rfl, Bool.and_true] at e
    exact e
  · intro h
    refine mask_ext fun j => ?_
    rw [Nat.testBit_and, Nat.testBit_two_pow, Nat.zero_testBit]
    by_cases e : i = j
    · subst e; rw [h]; rfl
    · rw [decide_eq_false e, Bool.and_false]
theorem newD_met {ps : List Pth} {ds : List Det} {k i : Nat} (h : findK (dAt ds k).path ps = some i) (hi : i < 12) : newD ds k = decide (metD ps ds k &&& 2 ^ i = 0) := by
  rw [Bool.eq_iff_iff, decide_eq_true_eq, and_pow_zero, Bool.eq_false_iff]
  constructor
  · intro hn hb
    obtain ⟨_, x, hx, e⟩ := (metD_bit _ _ _ _).1 hb
    obtain ⟨p, hp, he, _⟩ := findK_at h
    obtain ⟨q, hq, he2, _⟩ := findK_at e
    rw [hp] at hq
    cases hq
    rw [newD_no hx (he2.symm.trans he)] at hn
    cases hn
  · intro hb
    refine newD_yes fun x hx e => hb ?_
    exact (metD_bit _ _ _ _).2 ⟨hi, x, hx, by rw [e]; exact h⟩
theorem goodD_none {ps : List Pth} {ds : List Det} {k : Nat} (h : findK (dAt ds k).path ps = none) : goodD ps ds k = false := by
  unfold goodD okD
  rw [fI_no h]
  rfl
theorem goodD_some {ps : List Pth} {ds : List Det} {k i : Nat} (h : findK (dAt ds k).path ps = some i) (hi : i < 12) : goodD ps ds k = (decide (metD ps ds k &&& 2 ^ i = 0) && (inB (dAt ds k).count 0 1000 && inB (dAt ds k).age 0 100000)) := by
  unfold goodD okD
  rw [fI_some h, newD_met h hi, decide_eq_true (by omega), Bool.true_and, Bool.and_comm]
end Go.Proofs.Ytgdficjihkglpaa
