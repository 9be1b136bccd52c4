/- Sets of indexes as masks. No program. -/
import Derived.Test.YtgdficjihkglpabDoorPth
import Derived.Laws.BitsAllLaws
namespace Go.Proofs.YtgdficjihkglpabDoor
open Go.RowKit
set_option linter.unusedVariables false

/-- the set of those below n for which f holds. -/
def maskF (f : Nat → Bool) : Nat → Nat
  | 0 => 0
  | n + 1 => maskF f n ||| (if f n then 2 ^ n else 0)
theorem maskF_bit (f : Nat → Bool) (n j : Nat) : (maskF f n).testBit j = (decide (j < n) && f j) := by
  induction n with
  | zero => simp [maskF]
  | succ n ih =>
    rw [maskF, Nat.testBit_or, ih]
    by_cases h : f n
    · rw [if_pos h, Nat.testBit_two_pow]
      by_cases e : n = j
      · subst e; simp [h]
      · have e1 : decide (j < n + 1) = decide (j < n) := by simp; omega
        rw [e1]
        simp [e]
    · rw [if_neg h, Nat.zero_testBit]
      by_cases e : n = j
      · subst e; simp [h]
      · have e1 : decide (j < n + 1) = decide (j < n) := by simp; omega
        rw [e1]
        simp
theorem maskF_lt (f : Nat → Bool) (n : Nat) : maskF f n < 2 ^ n := by
  refine Nat.lt_pow_two_of_testBit _ fun i hi => ?_
  rw [maskF_bit, decide_eq_false (by omega)]
  rfl
theorem mask_ext {a b : Nat} (h : ∀ j, a.testBit j = b.testBit j) : a = b := Nat.eq_of_testBit_eq h
theorem mask_lt {m n : Nat} (h : ∀ j, n ≤ j → m.testBit j = false) : m < 2 ^ n := Nat.lt_pow_two_of_testBit _ fun i hi => h i hi
theorem bit_lt {i : Nat} (h : i < 12) : 2 ^ i < 65536 := Nat.lt_of_lt_of_le (Nat.pow_lt_pow_right (by decide) h) (by decide)
theorem or_lt {a b : Nat} (ha : a < 4096) (hb : b < 4096) : a ||| b < 4096 := Nat.or_lt_two_pow (n := 12) ha hb
theorem shl_bit (i : Nat) (h : i < 12) : IntKind.u16.wrap (1 * 2 ^ min i 16) = ((2 ^ i : Nat) : Int) := by
  have hb := bit_lt h
  rw [Nat.min_eq_left (by omega), Int.one_mul, IntKind.wrap_u16]
  have e : ((2 : Int) ^ i) = ((2 ^ i : Nat) : Int) := by simp
  rw [e]
  generalize 2 ^ i = x at hb ⊢
  omega
end Go.Proofs.YtgdficjihkglpabDoor
