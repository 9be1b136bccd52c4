/- Slices of slices of numbers of a call's own. -/
import Derived.Test.YtdgpodopkfnpeabStg3
namespace Go.Proofs.Ytdgpodopkfnpeab
open Go.RowKit
set_option linter.unusedVariables false

theorem info_ints : (Try.prog.info? 48).map (fun i => (i.zero, i.size, i.bytes)) = some (some (.slice none 0 0), 1, 24) := by kernel_rfl
/-- v is a slice of the call's own (a block from lo on), of slices of the call's own. -/
def OwnSS (w : World) (lo : Nat) (v : Value) (zss : List (List Int)) : Prop :=
  ∃ vs : List Value, w.ownsRow lo 48 1 v zss.length vs ∧ ∀ j, j < zss.length → ∃ u, vs[j]? = some u ∧ Own .i64 3 w lo u (zss.getD j [])
/-- rows of other types lie in other blocks. -/
theorem own_apart {w : World} {lo lo2 : Nat} {u v : Value} {zs : List Int} {n : Nat} {vs : List Value} (h : Own .i64 3 w lo u zs) (h2 : w.ownsRow lo2 48 1 v n vs) : ∀ g, u.ownBlock = some g → v.ownBlock ≠ some g := by
  intro g hg e
  rcases h.2 with ⟨rfl, _⟩ | ⟨g1, cap, cur, rfl, hb, hg1, r⟩
  · cases hg
  · rcases h2.2 with ⟨rfl, _⟩ | ⟨g2, cap2, cur2, rfl, hb2, hg2, r2⟩
    · cases e
    · have e1 : g1 = g := Option.some.inj hg
      have e2 : g2 = g := Option.some.inj e
      subst e1
      subst e2
      rw [hg1] at hg2
      injection hg2 with hg2
      injection hg2 with _ ht
      exact absurd ht (by decide)
theorem OwnSS.apart {w : World} {lo lo2 : Nat} {u v : Value} {zs : List Int} {zss : List (List Int)} (h : OwnSS w lo2 v zss) (h2 : Own .i64 3 w lo u zs) : ∀ g, u.ownBlock = some g → v.ownBlock ≠ some g := by
  obtain ⟨vs, hr, _⟩ := h
  exact own_apart h2 hr
theorem OwnSS.mono {w : World} {lo lo' : Nat} {v : Value} {zss : List (List Int)} (h : OwnSS w lo v zss) (hl : lo' ≤ lo) : OwnSS w lo' v zss := by
  obtain ⟨vs, hr, hi⟩ := h
  refine ⟨vs, ownr_mono hr hl, fun j hj => ?_⟩
  obtain ⟨u, h1, h2⟩ := hi j hj
  exact ⟨u, h1, h2.mono hl⟩
theorem OwnSS.below {w w' : World} {lo : Nat} {v : Value} {zss : List (List Int)} (h : OwnSS w lo v zss) (hb : Below w.heap.size w w') : OwnSS w' lo v zss := by
  obtain ⟨vs, hr, hi⟩ := h
  refine ⟨vs, ownr_below hr hb, fun j hj => ?_⟩
  obtain ⟨u, h1, h2⟩ := hi j hj
  exact ⟨u, h1, h2.below hb⟩
theorem OwnSS.alloc {w : World} {lo : Nat} {v : Value} {zss : List (List Int)} (h : OwnSS w lo v zss) (o : Obj) : OwnSS (w.alloc o) lo v zss := h.below ((Below.refl _ _).alloc (Nat.le_refl _) _)
theorem OwnSS.sliced {w : World} {lo : Nat} {v : Value} {zss : List (List Int)} (h : OwnSS w lo v zss) : ∃ A c, v = .slice A zss.length c := by
  obtain ⟨vs, hr, _⟩ := h
  exact ownr_sliced hr
theorem OwnSS.block {w : World} {lo : Nat} {v : Value} {zss : List (List Int)} (h : OwnSS w lo v zss) : ∀ g, v.ownBlock = some g → lo ≤ g ∧ g < w.heap.size := by
  obtain ⟨vs, hr, _⟩ := h
  exact ownr_block hr
theorem OwnSS.hollow {W : World} {lo g : Nat} (h : W.heap[g]? = some (.cells #[] 48 (0, 0))) (hl : lo ≤ g) : OwnSS W lo (.slice (some ⟨g, 0, none⟩) 0 0) [] :=
  ⟨[], ⟨rfl, .inr ⟨g, 0, #[], rfl, hl, h, Nat.le_refl _, by decide, rfl, rfl⟩⟩, fun j hj => absurd hj (by simp)⟩
/-- a row of the call's own, put behind. -/
theorem OwnSS.put {w w1 w' : World} {lo : Nat} {v v' u : Value} {zss : List (List Int)} {zs : List Int} (vs : List Value) (hr : w.ownsRow lo 48 1 v zss.length vs) (hi : ∀ j, j < zss.length → ∃ u, vs[j]? = some u ∧ Own .i64 3 w lo u (zss.getD j [])) (h2 : Own .i64 3 w lo u zs)
    (hb : Below w.heap.size w w1) (hr' : w'.ownsRow lo 48 1 v' (zss.length + 1) (vs ++ [u])) (hg : w1.grownBy w' v.ownBlock) : OwnSS w' lo v' (zss ++ [zs]) := by
  have hl : vs.length = zss.length := by have := hr.1; omega
  have hr1 := ownr_below hr hb
  have kept : ∀ {x : Value} {xs : List Int}, Own .i64 3 w lo x xs → Own .i64 3 w' lo x xs := fun hx => (hx.below hb).grown hg (own_apart (hx.below hb) hr1)
  refine ⟨vs ++ [u], by rw [List.length_append]; exact hr', fun j hj => ?_⟩
  rw [List.length_append, List.length_singleton] at hj
  by_cases e : j < zss.length
  · obtain ⟨x, h1, h3⟩ := hi j e
    refine ⟨x, by rw [List.getElem?_append_left (by omega)]; exact h1, ?_⟩
    rw [List.getD_eq_getElem?_getD, List.getElem?_append_left e, ← List.getD_eq_getElem?_getD]
    exact kept h3
  · obtain rfl : j = zss.length := by omega
    refine ⟨u, by rw [List.getElem?_append_right (by omega)]; simp [hl], ?_⟩
    rw [List.getD_eq_getElem?_getD, List.getElem?_append_right (by omega)]
    simpa using kept h2
theorem addS_length (ps : List Pth) (zs : List Int) : (addS ps zs).length ≤ zs.length + ps.length := by
  unfold addS
  split
  · exact addTo_length _ _ _
  · omega
/-- the stages laid for the first i paths, and the paths done by them. -/
def coverTo (ps : List Pth) : Nat → List (List Int) × List Int
  | 0 => ([], [])
  | i + 1 => if hasI (coverTo ps i).2 (pAt ps i).id then coverTo ps i else ((coverTo ps i).1 ++ [addS ps [(pAt ps i).id]], (addS ps [(pAt ps i).id]).foldl putI (coverTo ps i).2)
/-- what CoverOf answers. -/
def coverP (ps : List Pth) : List (List Int) := if arePs ps then (coverTo ps ps.length).1 else []
theorem foldl_putI_length (s d : List Int) : (s.foldl putI d).length ≤ d.length + s.length := by
  induction s generalizing d with
  | nil => exact Nat.le_refl _
  | cons x s ih =>
    have h1 := ih (putI d x)
    have h2 := putI_length d x
    rw [List.foldl_cons, List.length_cons]
    omega
theorem coverTo_len (ps : List Pth) : ∀ i, (coverTo ps i).1.length ≤ i ∧ (coverTo ps i).2.length ≤ i * (1 + ps.length)
  | 0 => ⟨Nat.le_refl _, Nat.zero_le _⟩
  | i + 1 => by
    obtain ⟨h1, h2⟩ := coverTo_len ps i
    have hs := addS_length ps [(pAt ps i).id]
    have hf := foldl_putI_length (addS ps [(pAt ps i).id]) (coverTo ps i).2
    have e : (i + 1) * (1 + ps.length) = i * (1 + ps.length) + (1 + ps.length) := Nat.succ_mul _ _
    rw [List.length_singleton] at hs
    unfold coverTo
    split
    · exact ⟨by omega, by omega⟩
    · refine ⟨?_, ?_⟩
      · show ((coverTo ps i).1 ++ [_]).length ≤ _
        rw [List.length_append, List.length_singleton]
        omega
      · show (List.foldl putI _ _).length ≤ _
        omega
end Go.Proofs.Ytdgpodopkfnpeab
