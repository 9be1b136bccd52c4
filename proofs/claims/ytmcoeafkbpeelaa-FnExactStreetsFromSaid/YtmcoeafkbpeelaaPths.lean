/- Rows of paths: the laws' helpers. -/
import Derived.Test.YtmcoeafkbpeelaaPath
import Derived.Test.YtmcoeafkbpeelaaMem
import Derived.Deep.RegionHeld3
import Derived.Deep.DrawnRows
namespace Go.Proofs.Ytmcoeafkbpeelaa
open Go.RowKit
set_option linter.unusedVariables false

/-- the cells of a list of paths. -/
def pcells (ps : List Pth) : List Value := ps.flatMap Pth.cells
theorem pcells_length (ps : List Pth) : (pcells ps).length = ps.length * 4 := flat_length (f := Pth.cells) (fun _ => rfl) ps
theorem pcells_take {ps : List Pth} {k : Nat} {p : Pth} (h : ps[k]? = some p) : pcells (ps.take (k + 1)) = pcells (ps.take k) ++ p.cells := by
  unfold pcells
  rw [List.take_add_one, h, List.flatMap_append]
  simp
theorem pcells_one (ps : List Pth) : ∀ u ∈ pcells ps, u.oneCell' = true := by
  intro u hu
  obtain ⟨p, _, hp⟩ := List.mem_flatMap.1 hu
  simp only [Pth.cells, List.mem_cons, List.not_mem_nil, or_false] at hp
  rcases hp with rfl | rfl | rfl | rfl <;> rfl
/-- one path stored behind those before it. -/
theorem pcells_put {ps : List Pth} {zs : List Value} {k : Nat} {p : Pth} (h : ps[k]? = some p) (hz : k * 4 + 4 ≤ zs.length) :
    ((((pcells (ps.take k) ++ zs.drop (k * 4)).set (k * 4) (.int .i64 p.id)).set (k * 4 + 1) (.int .i64 p.kind)).set (k * 4 + 2) (.int .i64 p.frm)).set (k * 4 + 3) (.int .i64 p.to) = pcells (ps.take (k + 1)) ++ zs.drop ((k + 1) * 4) := by
  obtain ⟨z0, z1, z2, z3, hd⟩ := drop4 hz
  have hk := (List.getElem?_eq_some_iff.1 h).1
  rw [hd, set4 (by rw [pcells_length, List.length_take]; omega), pcells_take h]
  simp [Pth.cells, Nat.add_mul]
/-- A slice value that holds these paths, in a block below B. -/
def PthsAt (w : World) (B : Nat) (A : Option Addr) (n : Nat) (ps : List Pth) : Prop := ps.length = n ∧ CellsAt w B A (n * 4) (pcells ps)
theorem PthsAt.keep {w w' : World} {B : Nat} {A : Option Addr} {n : Nat} {ps : List Pth} (h : PthsAt w B A n ps) (hk : ∀ p : Addr, p.block < B → w'.cell? p = w.cell? p) : PthsAt w' B A n ps := ⟨h.1, h.2.keep hk⟩
theorem PthsAt.below {w w' : World} {B : Nat} {A : Option Addr} {n : Nat} {ps : List Pth} (h : PthsAt w B A n ps) (hb : Below B w w') : PthsAt w' B A n ps := ⟨h.1, h.2.below hb⟩
theorem PthsAt.up {w : World} {B B' : Nat} {A : Option Addr} {n : Nat} {ps : List Pth} (h : PthsAt w B A n ps) (hB : B ≤ B') : PthsAt w B' A n ps := ⟨h.1, h.2.up hB⟩
/-- a path lies at q. -/
structure PthAt (w : World) (q : Addr) (p : Pth) : Prop where
  c0 : w.cell? q = some (.int .i64 p.id)
  c1 : w.cell? ⟨q.block, q.off + 1, none⟩ = some (.int .i64 p.kind)
  c2 : w.cell? ⟨q.block, q.off + 2, none⟩ = some (.int .i64 p.frm)
  c3 : w.cell? ⟨q.block, q.off + 3, none⟩ = some (.int .i64 p.to)
theorem PthAt.keep {w w' : World} {q : Addr} {p : Pth} (h : PthAt w q p) (e : w'.heap[q.block]? = w.heap[q.block]?) : PthAt w' q p :=
  ⟨(World.cell?_of_block e).trans h.c0, (World.cell?_of_block (a := ⟨q.block, q.off + 1, none⟩) e).trans h.c1, (World.cell?_of_block (a := ⟨q.block, q.off + 2, none⟩) e).trans h.c2, (World.cell?_of_block (a := ⟨q.block, q.off + 3, none⟩) e).trans h.c3⟩
theorem PthAt.below {w w' : World} {q : Addr} {p : Pth} {B : Nat} (h : PthAt w q p) (hb : Below B w w') (hB : q.block < B) : PthAt w' q p := h.keep (hb.block _ hB)
theorem add_plus (q : Addr) (i : Nat) (h : 0 < i) : q.add i = ⟨q.block, q.off + i, none⟩ := by unfold Addr.add; rw [if_neg (by omega)]
theorem PthsAt.at {w : World} {B : Nat} {A : Option Addr} {n : Nat} {ps : List Pth} (h : PthsAt w B A n ps) {k : Nat} (hk : k < n) : ∃ ad p, A = some ad ∧ (ad.add (k * 4)).block < B ∧ ps[k]? = some p ∧ PthAt w (ad.add (k * 4)) p := by
  obtain ⟨hl, _, hc⟩ := h
  obtain ⟨ad, e, hb, hc⟩ := hc (by omega)
  have hp : ps[k]? = some ps[k] := List.getElem?_eq_getElem (by omega)
  have hg := fun i (hi : i < 4) => flat_get (f := Pth.cells) (fun _ => rfl) ps k i _ hp hi
  have ha := fun i (hi : 0 < i) => (add_add ad (k * 4) i).symm.trans (add_plus _ i hi)
  refine ⟨ad, ps[k], e, by rw [add_block]; exact hb, hp, hc _ _ (hg 0 (by decide)), ?_, ?_, ?_⟩
  · rw [← ha 1 (by decide)]; exact hc _ _ (hg 1 (by decide))
  · rw [← ha 2 (by decide)]; exact hc _ _ (hg 2 (by decide))
  · rw [← ha 3 (by decide)]; exact hc _ _ (hg 3 (by decide))
end Go.Proofs.Ytmcoeafkbpeelaa
