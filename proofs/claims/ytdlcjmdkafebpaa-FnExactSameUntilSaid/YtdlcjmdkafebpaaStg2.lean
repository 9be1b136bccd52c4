/- Chapter 6's model: full stages. -/
import Derived.Test.YtdlcjmdkafebpaaStg
namespace Go.Proofs.Ytdlcjmdkafebpaa
open Go.RowKit
set_option linter.unusedVariables false

theorem putI_length (zs : List Int) (n : Int) : (putI zs n).length ≤ zs.length + 1 := by
  unfold putI
  split
  · omega
  · rw [List.length_append, List.length_cons, List.length_take, List.length_drop]
    omega
/-- the i-th path is in the stage, or may not be put into it. -/
def fullAt (ps : List Pth) (zs : List Int) (i : Nat) : Bool := hasI zs (pAt ps i).id || !isTog ps (putI zs (pAt ps i).id)
/-- what IsFullStage answers. -/
def isFull (ps : List Pth) (zs : List Int) : Bool := (List.range ps.length).all (fullAt ps zs) && isTog ps zs
theorem isFull_no {ps : List Pth} {zs : List Int} {i : Nat} (hi : i < ps.length) (h : fullAt ps zs i = false) : isFull ps zs = false := by
  unfold isFull
  have : (List.range ps.length).all (fullAt ps zs) = false := by
    rw [Bool.eq_false_iff]
    intro ha
    have := List.all_eq_true.1 ha i (List.mem_range.2 hi)
    rw [h] at this
    cases this
  rw [this]
  rfl
theorem isFull_end {ps : List Pth} {zs : List Int} (h : ∀ i, i < ps.length → fullAt ps zs i = true) : isFull ps zs = isTog ps zs := by
  unfold isFull
  have : (List.range ps.length).all (fullAt ps zs) = true := List.all_eq_true.2 fun k hk => h k (List.mem_range.1 hk)
  rw [this]
  simp
/-- the first k paths tried one by one. -/
def addTo (ps : List Pth) (zs : List Int) : Nat → List Int
  | 0 => zs
  | k + 1 => if isTog ps (putI (addTo ps zs k) (pAt ps k).id) then putI (addTo ps zs k) (pAt ps k).id else addTo ps zs k
/-- what AddToStage answers. -/
def addS (ps : List Pth) (zs : List Int) : List Int := if isTog ps zs then addTo ps zs ps.length else zs
theorem addTo_length (ps : List Pth) (zs : List Int) : ∀ k, (addTo ps zs k).length ≤ zs.length + k
  | 0 => Nat.le_refl _
  | k + 1 => by
    have ih := addTo_length ps zs k
    have h := putI_length (addTo ps zs k) (pAt ps k).id
    unfold addTo
    split <;> omega
end Go.Proofs.Ytdlcjmdkafebpaa
