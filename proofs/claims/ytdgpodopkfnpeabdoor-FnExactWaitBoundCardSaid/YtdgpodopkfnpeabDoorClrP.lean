/- Chapter 7's answers as Lean data; no program. -/
import Derived.Test.YtdgpodopkfnpeabDoorStg
namespace Go.Proofs.YtdgpodopkfnpeabDoor
open Go.RowKit
set_option linter.unusedVariables false

/-- what StaysOpen and Closes answer. -/
def stayL (zs ys : List Int) : List Int := zs.filter fun z => hasI ys z
def closL (zs ys : List Int) : List Int := zs.filter fun z => !hasI ys z
/-- the same with the wanted answer given. -/
def pickL (zs ys : List Int) (b : Bool) : List Int := zs.filter fun z => hasI ys z == b
theorem pick_true (zs ys : List Int) : pickL zs ys true = stayL zs ys := by
  unfold pickL stayL
  congr
  funext z
  cases hasI ys z <;> rfl
theorem pick_false (zs ys : List Int) : pickL zs ys false = closL zs ys := by
  unfold pickL closL
  congr
  funext z
  cases hasI ys z <;> rfl
theorem pick_zero (zs ys : List Int) (b : Bool) : pickL (zs.take 0) ys b = [] := by simp [pickL]
theorem pick_yes {zs ys : List Int} {b : Bool} {k : Nat} (hk : k < zs.length) (h : hasI ys (zs.getD k 0) = b) : pickL (zs.take (k + 1)) ys b = pickL (zs.take k) ys b ++ [zs.getD k 0] := by
  have e : zs[k]? = some (zs.getD k 0) := by rw [List.getD_eq_getElem?_getD, List.getElem?_eq_getElem hk]; rfl
  unfold pickL
  rw [List.take_add_one, e, List.filter_append]
  simp only [Option.toList, List.filter_cons, List.filter_nil, h, beq_self_eq_true, if_true]
theorem pick_no {zs ys : List Int} {b : Bool} {k : Nat} (hk : k < zs.length) (h : hasI ys (zs.getD k 0) = !b) : pickL (zs.take (k + 1)) ys b = pickL (zs.take k) ys b := by
  have e : zs[k]? = some (zs.getD k 0) := by rw [List.getD_eq_getElem?_getD, List.getElem?_eq_getElem hk]; rfl
  unfold pickL
  rw [List.take_add_one, e, List.filter_append]
  have h3 : (hasI ys (zs.getD k 0) == b) = false := by rw [h]; cases b <;> rfl
  rw [show (some (zs.getD k 0)).toList = [zs.getD k 0] from rfl, List.filter_cons_of_neg (by rw [h3]; simp), List.filter_nil, List.append_nil]
theorem pick_len (zs ys : List Int) (b : Bool) : (pickL zs ys b).length ≤ zs.length := List.length_filter_le _ _
theorem pick_len_take (zs ys : List Int) (b : Bool) (k : Nat) : (pickL (zs.take k) ys b).length ≤ k := Nat.le_trans (pick_len _ _ _) (by rw [List.length_take]; omega)
/-- what ClearOf answers. -/
def clearN (p : Pth) : Int := if isP p then (if p.kind = 1 then 2 else if p.kind = 2 then 5 else 3) else 0
theorem clearN_bound (p : Pth) : 0 ≤ clearN p ∧ clearN p ≤ 5 := by
  unfold clearN
  split
  · split
    · omega
    · split <;> omega
  · omega
/-- the greatest of the first k. -/
def mostTo (ps : List Pth) : Nat → Int
  | 0 => 0
  | k + 1 => maxI (mostTo ps k) (clearN (pAt ps k))
theorem mostTo_bound (ps : List Pth) : ∀ k, 0 ≤ mostTo ps k ∧ mostTo ps k ≤ 5
  | 0 => by simp [mostTo]
  | k + 1 => by
    obtain ⟨h1, h2⟩ := mostTo_bound ps k
    obtain ⟨h3, h4⟩ := clearN_bound (pAt ps k)
    show 0 ≤ maxI _ _ ∧ maxI _ _ ≤ 5
    unfold maxI
    split <;> omega
/-- what LongestClear answers. -/
def longC (ps : List Pth) : Int := if arePs ps then mostTo ps ps.length else 0
end Go.Proofs.YtdgpodopkfnpeabDoor
