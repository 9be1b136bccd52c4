/- slices.Sort and slices.Compact at []int: the shelf's contracts, laid here. -/
import Derived.Test.YtmcoeafkbpeelaaOwn
import Derived.Test.YtmcoeafkbpeelaaProg
import Derived.Shelf.Lay
import Derived.Shelf.Sort.Plain
import Derived.Shelf.Slices.In.SortNone
import Derived.Shelf.Slices.CompactI
import Derived.Ground.NamesProg
import Derived.Ground.Names2Prog
import Derived.Sort.OwnSortedInts
namespace Go.Proofs.Ytmcoeafkbpeelaa
open Go.RowKit Go.Shelf Go.Sort
set_option linter.unusedVariables false

shelf_lay Lays.n189 Nm 189 at Try as laysSort
shelf_lay Lays2.n20 Nm2 20 at Try as laysCompact
/-- a row is its block. -/
theorem own_cells {w : World} {lo : Nat} {g n c : Nat} {zs : List Int} (h : Own .i64 3 w lo (.slice (some ⟨g, 0, none⟩) n c) zs) :
    n = zs.length ∧ lo ≤ g ∧ ∃ cur, w.heap[g]? = some (.cells cur 3 (0, 0)) ∧ zs.length ≤ c ∧ c ≤ maxLen ∧ cur.size = c * 1 ∧ cur.toList.take zs.length = zs.map (Value.int .i64) := by
  rcases h.2 with ⟨h', _⟩ | ⟨g', cap', cur, h', hb, hg, hnc, hcm, hcs, htake⟩
  · simp at h'
  · simp only [Value.slice.injEq, Option.some.injEq, Addr.mk.injEq, and_true] at h'
    obtain ⟨rfl, rfl, rfl⟩ := h'
    exact ⟨rfl, hb, cur, hg, hnc, hcm, hcs, by rw [Nat.mul_one] at htake; exact htake⟩
theorem lib_SortF (A : Option Addr) (n c lo : Nat) (zs : List Int) (w : World) (h : Own .i64 3 w lo (.slice A n c) zs) (hn : n ≤ 4294967296) :
    Calls Try.prog 85 #[.slice A n c] w fun e w' => e = .returned (.tuple #[]) ∧ Own .i64 3 w' lo (.slice A n c) (zs.mergeSort fun x y => decide (x ≤ y)) ∧ w.grownBy w' (Value.slice A n c).ownBlock := by
  rcases h.shape with ⟨e, rfl⟩ | ⟨g, cap, e, hlo, hlt, h1, h2⟩
  · injection e with e1 e2 e3
    subst e1; subst e2; subst e3
    refine (Any.slices_Sort_int_none laysSort none 0 w).mono ?_
    rintro e w' ⟨rfl, rfl⟩
    exact ⟨rfl, by simpa using h, World.grownBy.refl _ _⟩
  · injection e with e1 e2 e3
    subst e1; subst e3
    obtain ⟨hl, _, cur, hb, hc1, hc2, hcs, ht⟩ := own_cells h
    subst hl
    refine (Any.slices_Sort_int laysSort g 0 c zs w (holds_of_blockI hb ht) hlt (by omega)).mono ?_
    rintro e w' ⟨rfl, q, os, rfl⟩
    refine ⟨rfl, ?_, grownBy_sortedI _⟩
    have hlen : (zs.mergeSort fun x y => decide (x ≤ y)).length = zs.length := List.length_mergeSort _
    have := ownsRow_sortedI (w := w) (base := lo) (n := q) (os := os) hlen hlo hb hc1 hc2 hcs
    unfold Own
    rw [hlen]
    exact this
theorem own_short {w : World} {lo g n c : Nat} {xs ys : List Int} (h : Own .i64 3 w lo (.slice (some ⟨g, 0, none⟩) n c) (xs ++ ys)) : Own .i64 3 w lo (.slice (some ⟨g, 0, none⟩) xs.length c) xs := by
  obtain ⟨hl, hlo, cur, hb, hc1, hc2, hcs, ht⟩ := own_cells h
  have e1 : List.take xs.length (List.take (xs ++ ys).length cur.toList) = List.take xs.length cur.toList := by rw [List.take_take, List.length_append, Nat.min_eq_left (by omega)]
  have e2 : List.take xs.length ((xs ++ ys).map (Value.int .i64)) = xs.map (Value.int .i64) := by
    rw [List.map_append]
    exact List.take_left' (by simp)
  have e := e1.symm.trans ((congrArg (List.take xs.length) ht).trans e2)
  rw [List.length_append] at hc1
  exact ⟨by simp, .inr ⟨g, c, cur, rfl, hlo, hb, by omega, hc2, hcs, by rw [Nat.mul_one]; exact e⟩⟩
theorem compact_len (zs : List Int) : (Lib.compact zs).length ≤ zs.length := by
  unfold Lib.compact Lib.compactUpTo
  rw [List.length_map]
  exact Nat.le_trans (List.length_filter_le _ _) (by simp)
theorem lib_CompactF (A : Option Addr) (n c lo : Nat) (zs : List Int) (w : World) (h : Own .i64 3 w lo (.slice A n c) zs) (hn : n ≤ 4294967296) :
    Calls Try.prog 86 #[.slice A n c] w fun e w' => e = .returned (.slice A (Lib.compact zs).length c) ∧ Own .i64 3 w' lo (.slice A (Lib.compact zs).length c) (Lib.compact zs) ∧ w.grownBy w' (Value.slice A n c).ownBlock := by
  rcases h.shape with ⟨e, rfl⟩ | ⟨g, cap, e, hlo, hlt, h1, h2⟩
  · injection e with e1 e2 e3
    subst e1; subst e2; subst e3
    refine (Any.slices_Compact_int_empty laysCompact none 0 w).mono ?_
    rintro e w' ⟨rfl, rfl⟩
    exact ⟨rfl, h, World.grownBy.refl _ _⟩
  · injection e with e1 e2 e3
    subst e1; subst e3
    obtain ⟨hl, _, cur, hb, hc1, hc2, hcs, ht⟩ := own_cells h
    subst hl
    refine (Any.slices_Compact_int laysCompact g 0 c zs w (holds_of_blockI hb ht) (by omega) hc1).mono ?_
    rintro e w' ⟨rfl, q, rfl⟩
    have hcl := compact_len zs
    have hlen : (Lib.compact zs ++ List.replicate (zs.length - (Lib.compact zs).length) (0 : Int)).length = zs.length := by rw [List.length_append, List.length_replicate]; omega
    have h3 := ownsRow_sortedI (w := w) (base := lo) (n := q) (os := #[]) hlen hlo hb hc1 hc2 hcs
    rw [grow_empty] at h3
    have h4 : w.grownBy (putRow (Value.int .i64) (Sort.ahead w q) g 0 (Lib.compact zs ++ List.replicate (zs.length - (Lib.compact zs).length) (0 : Int)).toArray) (some g) := by
      have := grownBy_sortedI (w := w) (g := g) (n := q) (os := #[]) (Lib.compact zs ++ List.replicate (zs.length - (Lib.compact zs).length) (0 : Int)).toArray
      rwa [grow_empty] at this
    refine ⟨rfl, own_short (n := zs.length) (ys := List.replicate (zs.length - (Lib.compact zs).length) (0 : Int)) ?_, h4⟩
    unfold Own
    rw [hlen]
    exact h3
end Go.Proofs.Ytmcoeafkbpeelaa
