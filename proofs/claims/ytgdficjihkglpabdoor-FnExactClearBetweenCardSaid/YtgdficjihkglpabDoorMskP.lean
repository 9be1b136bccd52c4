/- Sets of stages, and what they cover, as data. No walk. -/
import Derived.Test.YtgdficjihkglpabDoorSetEq
namespace Go.Proofs.YtgdficjihkglpabDoor
open Go.RowKit
set_option linter.unusedVariables false

/-- the set of a stage. -/
def maskL (ps : List Pth) (zs : List Int) : Nat := (stI ps (rowSt ps ps.length 0) zs).getD 0
theorem tog_maskL {ps : List Pth} {zs : List Int} (h : isTog ps zs = true) : arePs ps = true ∧ maskL ps zs < 2 ^ ps.length ∧ zs = idsM ps (maskL ps zs) ∧ freeM ps (maskL ps zs) ∧ stI ps (rowSt ps ps.length 0) zs = some (maskL ps zs) := by
  obtain ⟨ha, m, h1, h2, h3, h4⟩ := tog_stage h
  have e : maskL ps zs = m := by unfold maskL; rw [h4]; rfl
  rw [e]
  exact ⟨ha, h1, h2, h3, h4⟩
theorem tog_none {ps : List Pth} (ha : arePs ps = true) {zs : List Int} (h : isTog ps zs = false) : stI ps (rowSt ps ps.length 0) zs = none := by
  rw [← togI_eq] at h
  unfold togI at h
  rw [ha, Bool.true_and] at h
  cases hs : stI ps (rowSt ps ps.length 0) zs with
  | none => rfl
  | some m => rw [hs] at h; cases h
/-- all that these have together. -/
def orM (ms : List Nat) : Nat := ms.foldl (fun a m => a ||| m) 0
theorem covS_masks {ps : List Pth} : ∀ (zss : List (List Int)) (c : Nat), (∀ zs ∈ zss, isTog ps zs = true) → covS ps c zss = some ((zss.map (maskL ps)).foldl (fun a m => a ||| m) c)
  | [], c, _ => rfl
  | zs :: zss, c, h => by
    obtain ⟨_, _, _, _, h5⟩ := tog_maskL (h zs List.mem_cons_self)
    unfold covS
    rw [h5]
    exact covS_masks zss _ fun z hz => h z (List.mem_cons_of_mem _ hz)
theorem covers_masks {ps : List Pth} (ha : arePs ps = true) {zss : List (List Int)} (h : ∀ zs ∈ zss, isTog ps zs = true) : coversP ps zss = decide (orM (zss.map (maskL ps)) = 2 ^ ps.length - 1) := by
  rw [← covers_eq]
  unfold coversI orM
  rw [ha, Bool.true_and, covS_masks zss 0 h]
  simp
theorem orM_succ {ms : List Nat} {k : Nat} (h : k < ms.length) : orM (ms.take (k + 1)) = orM (ms.take k) ||| ms.getD k 0 := by
  unfold orM
  rw [List.take_add_one, List.getElem?_eq_getElem h, List.foldl_append, List.getD_eq_getElem?_getD, List.getElem?_eq_getElem h]
  rfl
end Go.Proofs.YtgdficjihkglpabDoor
