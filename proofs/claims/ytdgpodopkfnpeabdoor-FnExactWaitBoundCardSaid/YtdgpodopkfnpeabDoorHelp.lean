/- Contracts of the laws' own helpers: copies, comparisons, marks. -/
import Derived.Test.YtdgpodopkfnpeabDoorOwn
import Derived.Test.YtdgpodopkfnpeabDoorRows
namespace Go.Proofs.YtdgpodopkfnpeabDoor
open Go.RowKit
set_option linter.unusedVariables false

/-- what a mark writes. -/
def marks (k : IntKind) (s : Int) (n : Nat) : List Int := (List.range n).map fun (j : Nat) => k.wrap (s + (j : Int))
theorem marks_length (k : IntKind) (s : Int) (n : Nat) : (marks k s n).length = n := by simp [marks]
theorem marks_getD {k : IntKind} {s : Int} {n j : Nat} (h : j < n) : (marks k s n).getD j 0 = k.wrap (s + (j : Int)) := by
  simp [marks, List.getD_eq_getElem?_getD, h]
theorem set_prefix {zs ys : List Int} {j : Nat} {x : Int} (h : j < zs.length) (hx : ys.getD j 0 = x) (hj : j < ys.length) : (ys.take j ++ zs.drop j).set j x = ys.take (j + 1) ++ zs.drop (j + 1) := by
  apply List.ext_getElem?
  intro i
  have e : ys[j]? = some x := by rw [List.getElem?_eq_getElem hj] ; rw [List.getD_eq_getElem?_getD, List.getElem?_eq_getElem hj] at hx; simpa using hx
  simp only [List.getElem?_set, List.getElem?_append, List.length_append, List.length_take, List.length_drop, List.getElem?_take, List.getElem?_drop]
  by_cases h1 : i < j
  · have a1 : i < min j ys.length := by omega
    have a2 : i < min (j + 1) ys.length := by omega
    have a3 : ¬ j = i := by omega
    have a4 : i < j + 1 := by omega
    simp [h1, a1, a2, a3, a4]
  · by_cases h2 : i = j
    · subst h2
      have a2 : i < min (i + 1) ys.length := by omega
      have a3 : i < min i ys.length + (zs.length - i) := by omega
      simp only [a2, a3, if_true, e]
      have : i < i + 1 := by omega
      simp [this]
    · have a1 : ¬ i < min j ys.length := by omega
      have a2 : ¬ i < min (j + 1) ys.length := by omega
      have a3 : ¬ j = i := by omega
      rw [if_neg a3, if_neg a1, if_neg a2]
      congr 1
      omega
theorem take_all {zs : List Int} {n : Nat} (h : zs.length = n) (ys : List Int) (hy : ys.length ≤ n) : zs.take n ++ ys.drop n = zs := by
  rw [List.take_of_length_le (by omega), List.drop_of_length_le (by omega), List.append_nil]
/-- the first j elements are the same. -/
theorem same_step {a b : List Int} {j : Nat} (h : a.take j = b.take j) (ha : j < a.length) (hb : j < b.length) (e : a.getD j 0 = b.getD j 0) : a.take (j + 1) = b.take (j + 1) := by
  have e' : a[j] = b[j] := by
    rw [List.getD_eq_getElem?_getD, List.getD_eq_getElem?_getD, List.getElem?_eq_getElem ha, List.getElem?_eq_getElem hb] at e
    simpa using e
  rw [List.take_add_one, List.take_add_one, h, List.getElem?_eq_getElem ha, List.getElem?_eq_getElem hb, e']
theorem same_not {a b : List Int} {j : Nat} (e : ¬ a.getD j 0 = b.getD j 0) : decide (a = b) = false := by
  rw [decide_eq_false_iff_not]
  rintro rfl
  exact e rfl
theorem same_all {a b : List Int} {n : Nat} (h : a.take n = b.take n) (ha : a.length = n) (hb : b.length = n) : decide (a = b) = true := by
  rw [decide_eq_true_eq]
  rw [List.take_of_length_le (by omega), List.take_of_length_le (by omega)] at h
  exact h

theorem info_u8 : (Tryd.prog.info? 5).map (fun i => (i.zero, i.size, i.bytes)) = some (some (.int .u8 0), 1, IntKind.u8.bits / 8) := by kernel_rfl
theorem info_i64 : (Tryd.prog.info? 3).map (fun i => (i.zero, i.size, i.bytes)) = some (some (.int .i64 0), 1, IntKind.i64.bits / 8) := by kernel_rfl
end Go.Proofs.YtdgpodopkfnpeabDoor
