/- LeastGreen as Lean data. No walk. -/
import Derived.Test.YtdlcjmdkafebpaaTog
namespace Go.Proofs.Ytdlcjmdkafebpaa
open Go.RowKit
set_option linter.unusedVariables false

theorem fK_lt {ps : List Pth} {id : Int} {k : Nat} (h : findK id ps = some k) : k < ps.length := by
  obtain ⟨p, hp, _⟩ := findK_at h
  exact (List.getElem?_eq_some_iff.1 hp).1
theorem fI_some {ps : List Pth} {id : Int} {k : Nat} (h : findK id ps = some k) : findI id ps = (k : Int) := by unfold findI; rw [h]
theorem fI_no {ps : List Pth} {id : Int} (h : findK id ps = none) : findI id ps = -1 := by unfold findI; rw [h]
/-- this Id is a walk's. -/
def walkId (ps : List Pth) (id : Int) : Bool := match findK id ps with
  | none => false
  | some k => decide ((pAt ps k).kind = 2)
theorem walkId_none {ps : List Pth} {id : Int} (h : findK id ps = none) : walkId ps id = false := by unfold walkId; rw [h]
theorem walkId_some {ps : List Pth} {id : Int} {k : Nat} (h : findK id ps = some k) : walkId ps id = decide ((pAt ps k).kind = 2) := by unfold walkId; rw [h]
/-- what LeastGreen answers. -/
def leastG (ps : List Pth) (zs : List Int) : Int := if zs.any (walkId ps) then 7 else 5
theorem leastG_bound (ps : List Pth) (zs : List Int) : 5 ≤ leastG ps zs ∧ leastG ps zs ≤ 7 := by unfold leastG; split <;> omega
theorem leastG_yes {ps : List Pth} {zs : List Int} {k : Nat} (hk : k < zs.length) (h : walkId ps (zs.getD k 0) = true) : leastG ps zs = 7 := by
  unfold leastG
  have : zs.any (walkId ps) = true := List.any_eq_true.2 ⟨zs.getD k 0, by rw [List.getD_eq_getElem?_getD, List.getElem?_eq_getElem hk]; exact List.getElem_mem hk, h⟩
  rw [this]
  rfl
theorem leastG_no {ps : List Pth} {zs : List Int} (h : ∀ k, k < zs.length → walkId ps (zs.getD k 0) = false) : leastG ps zs = 5 := by
  unfold leastG
  have : zs.any (walkId ps) = false := by
    rw [Bool.eq_false_iff]
    intro ha
    obtain ⟨z, hz, hw⟩ := List.any_eq_true.1 ha
    obtain ⟨k, hk, rfl⟩ := List.getElem_of_mem hz
    have := h k hk
    rw [List.getD_eq_getElem?_getD, List.getElem?_eq_getElem hk] at this
    simp only [Option.getD_some] at this
    rw [this] at hw
    cases hw
  rw [this]
  rfl
end Go.Proofs.Ytdlcjmdkafebpaa
