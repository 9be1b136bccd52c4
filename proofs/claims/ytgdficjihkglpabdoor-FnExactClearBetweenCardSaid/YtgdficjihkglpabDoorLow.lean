/- The bits of a mask, the lowest first. No program. -/
import Derived.Test.YtgdficjihkglpabDoorMask
namespace Go.Proofs.YtgdficjihkglpabDoor
open Go.RowKit
set_option linter.unusedVariables false

/-- the members, ascending. -/
def bitsOf (m : Nat) : List Nat := (List.range 12).filter m.testBit
def lowB (m : Nat) : Nat := (bitsOf m).headD 12
def clr (m : Nat) : Nat := m - 2 ^ lowB m
def lowOk (m : Nat) : Bool := m == 0 || (decide (bitsOf m = lowB m :: bitsOf (clr m)) && decide (clr m < m) && decide (lowB m < 12) &&
  decide (bits .and .u16 (m : Int) (IntKind.u16.wrap (-(m : Int))) = ((2 ^ lowB m : Nat) : Int)) && decide (bits .and .u16 (m : Int) ((m : Int) - 1) = ((clr m : Nat) : Int)))
theorem lowOk_all : ∀ a : Fin 64, ∀ b : Fin 64, lowOk (64 * a.val + b.val) = true := by decide +kernel
structure LowOk (m : Nat) : Prop where
  bits : bitsOf m = lowB m :: bitsOf (clr m)
  less : clr m < m
  low : lowB m < 12
  neg : Go.bits .and .u16 (m : Int) (IntKind.u16.wrap (-(m : Int))) = ((2 ^ lowB m : Nat) : Int)
  dec : Go.bits .and .u16 (m : Int) ((m : Int) - 1) = ((clr m : Nat) : Int)
theorem low_ok {m : Nat} (h : m < 4096) (h0 : m ≠ 0) : LowOk m := by
  have h1 := lowOk_all ⟨m / 64, by omega⟩ ⟨m % 64, by omega⟩
  have e : 64 * (m / 64) + m % 64 = m := by omega
  simp only [e] at h1
  unfold lowOk at h1
  simp only [Bool.or_eq_true, beq_iff_eq, h0, false_or, Bool.and_eq_true, decide_eq_true_eq] at h1
  obtain ⟨⟨⟨⟨h1, h2⟩, h3⟩, h4⟩, h5⟩ := h1
  exact ⟨h1, h2, h3, h4, h5⟩
theorem bitsOf_zero : bitsOf 0 = [] := by decide
theorem bitsOf_mem {m i : Nat} : i ∈ bitsOf m ↔ i < 12 ∧ m.testBit i = true := by simp [bitsOf]
/-- the table of deBruijn's. -/
def dbTab : List Int := [0, 1, 28, 2, 29, 14, 24, 3, 30, 22, 20, 15, 25, 17, 4, 8, 31, 27, 13, 23, 21, 19, 16, 7, 26, 12, 18, 6, 11, 5, 10, 9]
theorem dbTab_at : ∀ i : Fin 12, dbTab.getD (2 ^ i.val * 125613361 % 4294967296 / 134217728) 0 = (i.val : Int) ∧ 2 ^ i.val * 125613361 % 4294967296 / 134217728 < 32 := by decide +kernel
end Go.Proofs.YtgdficjihkglpabDoor
