/- Chapter 6's model: lists of stages, read. -/
import Derived.Test.YtdlcjmdkafebpaaStg2
namespace Go.Proofs.Ytdlcjmdkafebpaa
open Go.RowKit
set_option linter.unusedVariables false

/-- A slice of slices of numbers, all in blocks below B. -/
def SSAt (w : World) (B : Nat) (A : Option Addr) (n : Nat) (zss : List (List Int)) : Prop :=
  zss.length = n ∧ (0 < n → ∃ ad, A = some ad ∧ ad.block < B ∧ ∀ j, j < n → ∃ A' m c, w.cell? (ad.add j) = some (.slice A' m c) ∧ IntsAt .i64 w B A' m (zss.getD j []) ∧ m ≤ c ∧ (A' = none → m = 0 ∧ c = 0))
theorem SSAt.at {w : World} {B : Nat} {A : Option Addr} {n : Nat} {zss : List (List Int)} (h : SSAt w B A n zss) {j : Nat} (hj : j < n) :
    ∃ ad A' m c, A = some ad ∧ (ad.add j).block < B ∧ w.cell? (ad.add j) = some (.slice A' m c) ∧ IntsAt .i64 w B A' m (zss.getD j []) ∧ m ≤ c ∧ (A' = none → m = 0 ∧ c = 0) := by
  obtain ⟨ad, e, hb, hc⟩ := h.2 (by omega)
  obtain ⟨A', m, c, h1, h2, h3, h4⟩ := hc j hj
  exact ⟨ad, A', m, c, e, by rw [add_block]; exact hb, h1, h2, h3, h4⟩
/-- a path is in one of the stages. -/
def inSome (zss : List (List Int)) (id : Int) : Bool := zss.any (fun zs => hasI zs id)
/-- what Covers answers. -/
def coversP (ps : List Pth) (zss : List (List Int)) : Bool := zss.all (isTog ps) && (List.range ps.length).all (fun i => inSome zss (pAt ps i).id) && arePs ps
theorem covers_tog {ps : List Pth} {zss : List (List Int)} {j : Nat} (hj : j < zss.length) (h : isTog ps (zss.getD j []) = false) : coversP ps zss = false := by
  unfold coversP
  have : zss.all (isTog ps) = false := by
    rw [Bool.eq_false_iff]
    intro ha
    have := List.all_eq_true.1 ha (zss.getD j []) (by rw [List.getD_eq_getElem?_getD, List.getElem?_eq_getElem hj]; exact List.getElem_mem hj)
    rw [h] at this
    cases this
  rw [this]
  rfl
theorem covers_out {ps : List Pth} {zss : List (List Int)} {j : Nat} (hj : j < ps.length) (h : inSome zss (pAt ps j).id = false) : coversP ps zss = false := by
  unfold coversP
  have : (List.range ps.length).all (fun i => inSome zss (pAt ps i).id) = false := by
    rw [Bool.eq_false_iff]
    intro ha
    have := List.all_eq_true.1 ha j (List.mem_range.2 hj)
    rw [h] at this
    cases this
  rw [this]
  simp
theorem covers_end {ps : List Pth} {zss : List (List Int)} (h1 : ∀ j, j < zss.length → isTog ps (zss.getD j []) = true) (h2 : ∀ i, i < ps.length → inSome zss (pAt ps i).id = true) : coversP ps zss = arePs ps := by
  unfold coversP
  have a : zss.all (isTog ps) = true := List.all_eq_true.2 fun zs hz => by
    obtain ⟨j, hj, e⟩ := List.getElem_of_mem hz
    have := h1 j hj
    rw [List.getD_eq_getElem?_getD, List.getElem?_eq_getElem hj] at this
    rw [← e]
    exact this
  have b : (List.range ps.length).all (fun i => inSome zss (pAt ps i).id) = true := List.all_eq_true.2 fun k hk => h2 k (List.mem_range.1 hk)
  rw [a, b]
  simp
theorem inSome_take {zss : List (List Int)} {k : Nat} (id : Int) (hk : k < zss.length) : inSome (zss.take (k + 1)) id = (inSome (zss.take k) id || hasI (zss.getD k []) id) := by
  unfold inSome
  rw [List.take_add_one, List.any_append, List.getElem?_eq_getElem hk, List.getD_eq_getElem?_getD, List.getElem?_eq_getElem hk]
  simp
end Go.Proofs.Ytdlcjmdkafebpaa
