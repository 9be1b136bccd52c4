/- CoverOf: the program; its exact law's contracts. -/
import Derived.Test.YtgdficjihkglpabDoorFillI
import Derived.Test.YtgdficjihkglpabDoorIdsI
import Derived.Test.YtgdficjihkglpabDoorSSM
import Derived.Test.YtgdficjihkglpabDoorCov
import Derived.Test.YtgdficjihkglpabDoorPthM
namespace Go.Proofs.YtgdficjihkglpabDoor
open Go.RowKit
set_option linter.unusedVariables false

theorem OwnD.hollow {W : World} {lo g : Nat} (h : W.heap[g]? = some (.cells #[] 33 (0, 0))) (hl : lo ≤ g) : OwnD W lo (.slice (some ⟨g, 0, none⟩) 0 0) [] [] :=
  ⟨⟨rfl, .inr ⟨g, 0, #[], rfl, hl, h, Nat.le_refl _, by decide, rfl, rfl⟩⟩, fun j hj => absurd hj (by simp), ApartL.nil⟩
theorem OwnD.put {w w1 w' : World} {lo : Nat} {v v' u : Value} {us : List Value} {zss : List (List Int)} {zs : List Int} (h : OwnD w lo v us zss) (h2 : Own .i64 3 w lo u zs) (hb : Below w.heap.size w w1)
    (hr' : w'.ownsRow lo 33 1 v' (zss.length + 1) (us ++ [u])) (hg : w1.grownBy w' v.ownBlock) (hap : ApartL (us ++ [u])) : OwnD w' lo v' (us ++ [u]) (zss ++ [zs]) := by
  have hl := h.len
  have hr1 := ownr_below h.row hb
  have kept : ∀ {x : Value} {xs : List Int}, Own .i64 3 w lo x xs → Own .i64 3 w' lo x xs := fun hx => (hx.below hb).grown hg (own_apart (hx.below hb) hr1)
  refine ⟨by rw [List.length_append]; exact hr', fun j hj => ?_, hap⟩
  rw [List.length_append, List.length_singleton] at hj
  by_cases e : j < zss.length
  · obtain ⟨x, h1, h3⟩ := h.each j e
    refine ⟨x, by rw [List.getElem?_append_left (by omega)]; exact h1, ?_⟩
    rw [List.getD_eq_getElem?_getD, List.getElem?_append_left e, ← List.getD_eq_getElem?_getD]
    exact kept h3
  · obtain rfl : j = zss.length := by omega
    refine ⟨u, by rw [List.getElem?_append_right (by omega)]; simp [hl], ?_⟩
    rw [List.getD_eq_getElem?_getD, List.getElem?_append_right (by omega)]
    simpa using kept h2
theorem row_not {w : World} {lo E s n b : Nat} {v : Value} {xs : List Value} {cs : Array Value} {T : TypeId} (h : w.ownsRow lo E s v n xs) (hb : w.heap[b]? = some (.cells cs T (0, 0))) (hT : T ≠ E) : v.ownBlock ≠ some b := by
  rcases h.2 with ⟨rfl, _⟩ | ⟨g, cap, cur, rfl, _, hg, _⟩
  · simp [Value.ownBlock]
  · intro e
    have e1 : g = b := Option.some.inj e
    subst e1
    rw [hb] at hg
    injection hg with hg
    injection hg with _ ht
    exact hT ht
theorem cov_len (ps : List Pth) : ∀ k, (covI ps k).1.length ≤ k
  | 0 => Nat.le_refl _
  | k + 1 => by
    have ih := cov_len ps k
    unfold covI
    split
    · omega
    · show ((covI ps k).1 ++ [_]).length ≤ _
      rw [List.length_append, List.length_singleton]
      omega
theorem cov_yes {ps : List Pth} {k q : Nat} {L : List Nat} (h : covI ps k = (L, q)) (hb : q.testBit k = true) : covI ps (k + 1) = (L, q) := by
  unfold covI
  rw [h]
  exact if_pos hb
theorem cov_no {ps : List Pth} {k q : Nat} {L : List Nat} (h : covI ps k = (L, q)) (hb : q.testBit k = false) : covI ps (k + 1) = (L ++ [fillTo (rowSt ps ps.length 0) (2 ^ k) ps.length], q ||| fillTo (rowSt ps ps.length 0) (2 ^ k) ps.length) := by
  unfold covI
  rw [h]
  exact if_neg (by rw [hb]; exact Bool.false_ne_true)
theorem and_bit (q k : Nat) : q &&& 2 ^ k = 0 ↔ q.testBit k = false := by
  rw [and_zero]
  constructor
  · intro h
    rw [Bool.eq_false_iff]
    intro hb
    exact h k ⟨hb, by rw [Nat.testBit_two_pow]; simp⟩
  · rintro h i ⟨h1, h2⟩
    rw [Nat.testBit_two_pow, decide_eq_true_eq] at h2
    subst h2
    rw [h] at h1
    cases h1
theorem cover_off {ps : List Pth} (h : arePs ps = false) : coverP ps = [] := by unfold coverP; rw [h]; rfl
theorem cover_on {ps : List Pth} (h : arePs ps = true) : coverP ps = (covI ps ps.length).1.map (idsM ps) := by
  unfold coverP
  rw [h, if_pos rfl]
  exact (cov_eq h _ (Nat.le_refl _)).1
theorem cover_small (ps : List Pth) : SmallSS (coverP ps) := by
  cases h : arePs ps
  · rw [cover_off h]; exact ⟨by simp, fun j hj => absurd hj (by simp)⟩
  · rw [cover_on h]
    have h12 := arePs_len12 h
    have hl := cov_len ps ps.length
    refine ⟨by rw [List.length_map]; omega, fun j hj => ?_⟩
    rw [List.length_map] at hj
    rw [List.getD_eq_getElem?_getD, List.getElem?_map, List.getElem?_eq_getElem hj]
    show ((idxs _).map _).length ≤ _
    rw [List.length_map]
    have := idxs_len ((covI ps ps.length).1[j])
    omega
end Go.Proofs.YtgdficjihkglpabDoor
