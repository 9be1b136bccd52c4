/- Interleave: the program. -/
import Derived.Test.YtdlcjmdkafebpaaPathI
import Derived.Test.YtdlcjmdkafebpaaInter
namespace Go.Proofs.Ytdlcjmdkafebpaa
open Go.RowKit
set_option linter.unusedVariables false

/-- four different places. -/
def diff4 (a b c d : Int) : Bool := decide (a ≠ b ∧ a ≠ c ∧ a ≠ d ∧ b ≠ c ∧ b ≠ d ∧ c ≠ d) && inB a 0 7 && inB b 0 7 && inB c 0 7 && inB d 0 7
theorem inter_diff (a b c d : Int) : inter a b c d = (diff4 a b c d && (betw a c b != betw a d b)) := rfl
theorem diff4_four {a b c d : Int} (h : okNs [a, b, c, d] 4) : diff4 a b c d = true := by
  obtain ⟨⟨h0, h1, h2, h3⟩, h4⟩ := okNs_four h
  unfold diff4
  rw [h0, h1, h2, h3, decide_eq_true h4]
  rfl
theorem diff4_eq {a b c d : Int} {j k : Nat} (hk : k < j) (hj : j < 4) (h : [a, b, c, d].getD j 0 = [a, b, c, d].getD k 0) : diff4 a b c d = false := by
  have h4 : ¬ (a ≠ b ∧ a ≠ c ∧ a ≠ d ∧ b ≠ c ∧ b ≠ d ∧ c ≠ d) := by
    rintro ⟨e1, e2, e3, e4, e5, e6⟩
    match j, k, hk, hj with
    | 1, 0, _, _ => exact e1 (by simpa using h.symm)
    | 2, 0, _, _ => exact e2 (by simpa using h.symm)
    | 2, 1, _, _ => exact e4 (by simpa using h.symm)
    | 3, 0, _, _ => exact e3 (by simpa using h.symm)
    | 3, 1, _, _ => exact e5 (by simpa using h.symm)
    | 3, 2, _, _ => exact e6 (by simpa using h.symm)
  unfold diff4
  rw [decide_eq_false h4]
  simp
theorem diff4_out {a b c d : Int} {j : Nat} (hj : j < 4) (h : inB ([a, b, c, d].getD j 0) 0 7 = false) : diff4 a b c d = false := by
  unfold diff4
  match j, hj with
  | 0, _ => simp at h; simp [h]
  | 1, _ => simp at h; simp [h]
  | 2, _ => simp at h; simp [h]
  | 3, _ => simp at h; simp [h]
/-- which places the first k of these numbers have taken. -/
def takenL (l : List Int) (k : Nat) : List Value := (List.range 8).map fun (j : Nat) => Value.bool (decide ((j : Int) ∈ l.take k))
theorem takenL_length (l : List Int) (k : Nat) : (takenL l k).length = 8 := by simp [takenL]
theorem takenL_at (l : List Int) (k j : Nat) (h : j < 8) : (takenL l k)[j]? = some (Value.bool (decide ((j : Int) ∈ l.take k))) := by
  simp [takenL, h]
theorem takenL_set {l : List Int} {k : Nat} (h : k < l.length) {j : Nat} (hj : l.getD k 0 = j) : (takenL l k).set j (.bool true) = takenL l (k + 1) := by
  have e : l.take (k + 1) = l.take k ++ [(j : Int)] := by
    rw [List.take_add_one, List.getElem?_eq_getElem h]
    rw [List.getD_eq_getElem?_getD, List.getElem?_eq_getElem h] at hj
    simp at hj
    simp [hj]
  apply List.ext_getElem?
  intro i
  by_cases hi : i < 8
  · rw [takenL_at _ _ _ hi, e, List.getElem?_set]
    by_cases hij : j = i
    · subst hij
      rw [if_pos rfl, if_pos (by rw [takenL_length]; exact hi)]
      simp
    · rw [if_neg hij, takenL_at _ _ _ hi]
      have : ¬ ((i : Int) = (j : Int)) := by omega
      simp [this]
  · rw [List.getElem?_eq_none (by rw [List.length_set, takenL_length]; omega), List.getElem?_eq_none (by rw [takenL_length]; omega)]
theorem take_mem {l : List Int} {k : Nat} {x : Int} (h : x ∈ l.take k) : ∃ j, j < k ∧ l.getD j 0 = x := by
  obtain ⟨j, hj, e⟩ := List.getElem_of_mem h
  rw [List.length_take] at hj
  refine ⟨j, by omega, ?_⟩
  rw [List.getElem_take] at e
  rw [List.getD_eq_getElem?_getD, List.getElem?_eq_getElem (by omega)]
  simpa using e
theorem not_take {l : List Int} {k : Nat} (hk : k ≤ l.length) {x : Int} (h : ¬ x ∈ l.take k) : ∀ j, j < k → x ≠ l.getD j 0 := by
  intro j hj e
  apply h
  rw [List.getD_eq_getElem?_getD, List.getElem?_eq_getElem (by omega)] at e
  simp at e
  rw [e]
  exact List.mem_iff_getElem.2 ⟨j, by rw [List.length_take]; omega, by rw [List.getElem_take]⟩
end Go.Proofs.Ytdlcjmdkafebpaa
