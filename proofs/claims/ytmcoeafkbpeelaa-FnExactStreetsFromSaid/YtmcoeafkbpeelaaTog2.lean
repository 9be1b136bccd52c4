/- Chapter 5's model: IsTogether. -/
import Derived.Test.YtmcoeafkbpeelaaTog
namespace Go.Proofs.Ytmcoeafkbpeelaa
open Go.RowKit
set_option linter.unusedVariables false

/-- the path with the k-th Id. -/
def idPth (ps : List Pth) (ids : List Int) (k : Nat) : Pth := pAt ps ((findK (ids.getD k 0) ps).getD 0)
/-- the i-th Id is a path's, is beyond the one before, and its path conflicts with none of those before. -/
def togAt (ps : List Pth) (ids : List Int) (i : Nat) : Bool := (findK (ids.getD i 0) ps).isSome && (i == 0 || decide (ids.getD (i - 1) 0 < ids.getD i 0)) && (List.range i).all (fun k => !conf (idPth ps ids i) (idPth ps ids k))
/-- what IsTogether answers. -/
def isTog (ps : List Pth) (ids : List Int) : Bool := (List.range ids.length).all (togAt ps ids) && arePs ps
theorem isTog_no {ps : List Pth} {ids : List Int} {i : Nat} (hi : i < ids.length) (h : togAt ps ids i = false) : isTog ps ids = false := by
  unfold isTog
  have : (List.range ids.length).all (togAt ps ids) = false := by
    rw [Bool.eq_false_iff]
    intro ha
    have := List.all_eq_true.1 ha i (List.mem_range.2 hi)
    rw [h] at this
    cases this
  rw [this]
  rfl
theorem isTog_end {ps : List Pth} {ids : List Int} (h : ∀ i, i < ids.length → togAt ps ids i = true) : isTog ps ids = arePs ps := by
  unfold isTog
  have : (List.range ids.length).all (togAt ps ids) = true := List.all_eq_true.2 fun k hk => h k (List.mem_range.1 hk)
  rw [this]
  simp
theorem togAt_none {ps : List Pth} {ids : List Int} {i : Nat} (h : findK (ids.getD i 0) ps = none) : togAt ps ids i = false := by unfold togAt; rw [h]; rfl
theorem togAt_low {ps : List Pth} {ids : List Int} {i : Nat} (h0 : i ≠ 0) (h : ¬ ids.getD (i - 1) 0 < ids.getD i 0) : togAt ps ids i = false := by
  unfold togAt
  have e1 : (i == 0) = false := by simpa using h0
  rw [e1, decide_eq_false h]
  simp
theorem togAt_conf {ps : List Pth} {ids : List Int} {i k : Nat} (hk : k < i) (h : conf (idPth ps ids i) (idPth ps ids k) = true) : togAt ps ids i = false := by
  unfold togAt
  have : (List.range i).all (fun k => !conf (idPth ps ids i) (idPth ps ids k)) = false := by
    rw [Bool.eq_false_iff]
    intro ha
    have := List.all_eq_true.1 ha k (List.mem_range.2 hk)
    rw [h] at this
    cases this
  rw [this]
  simp
theorem togAt_yes {ps : List Pth} {ids : List Int} {i m : Nat} (h : findK (ids.getD i 0) ps = some m) (h1 : i = 0 ∨ ids.getD (i - 1) 0 < ids.getD i 0) (h2 : ∀ k, k < i → conf (idPth ps ids i) (idPth ps ids k) = false) : togAt ps ids i = true := by
  unfold togAt
  have : (List.range i).all (fun k => !conf (idPth ps ids i) (idPth ps ids k)) = true := List.all_eq_true.2 fun k hk => by rw [h2 k (List.mem_range.1 hk)]; rfl
  rw [this, h]
  rcases h1 with rfl | h1
  · rfl
  · rw [decide_eq_true h1]; simp
theorem togAt_some {ps : List Pth} {ids : List Int} {i : Nat} (h : togAt ps ids i = true) : ∃ m p, findK (ids.getD i 0) ps = some m ∧ ps[m]? = some p ∧ idPth ps ids i = p := by
  unfold togAt at h
  cases e : findK (ids.getD i 0) ps with
  | none => rw [e] at h; simp at h
  | some m =>
    obtain ⟨p, hp, _, _⟩ := findK_at e
    exact ⟨m, p, rfl, hp, by unfold idPth; rw [e]; exact pAt_some hp⟩
end Go.Proofs.Ytmcoeafkbpeelaa
