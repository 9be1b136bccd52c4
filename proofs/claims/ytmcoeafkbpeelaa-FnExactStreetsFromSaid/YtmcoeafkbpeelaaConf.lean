/- Chapter 5's model. -/
import Derived.Test.YtmcoeafkbpeelaaInter
import Derived.Test.YtmcoeafkbpeelaaPths
namespace Go.Proofs.Ytmcoeafkbpeelaa
open Go.RowKit
set_option linter.unusedVariables false

/-- a path that lies at a block's head. -/
theorem pth_head {w : World} {g : Nat} {p : Pth} (h : PthAt w ⟨g, 0, none⟩ p) : w.cell? ⟨g, 0, none⟩ = some (.int .i64 p.id) ∧ w.cell? ⟨g, 1, none⟩ = some (.int .i64 p.kind) ∧ w.cell? ⟨g, 2, none⟩ = some (.int .i64 p.frm) ∧ w.cell? ⟨g, 3, none⟩ = some (.int .i64 p.to) := ⟨h.c0, h.c1, h.c2, h.c3⟩
theorem heap_size_alloc' (w : World) (o : Obj) : (w.alloc o).heap.size = w.heap.size + 1 := by simp
theorem pth_of_block {w : World} {g : Nat} {p : Pth} {T : TypeId} {fr : Nat × Nat} (h : w.heap[g]? = some (.cells #[.int .i64 p.id, .int .i64 p.kind, .int .i64 p.frm, .int .i64 p.to] T fr)) : PthAt w ⟨g, 0, none⟩ p :=
  ⟨by rw [cell_of_row w g 0 _ T fr h]; rfl, by rw [cell_of_row w g _ _ T fr h]; rfl, by rw [cell_of_row w g _ _ T fr h]; rfl, by rw [cell_of_row w g _ _ T fr h]; rfl⟩
theorem boxed_one {w w1 : World} {p : Pth} {T : TypeId} (hb : Below (w.alloc (.cells #[.int .i64 p.id, .int .i64 p.kind, .int .i64 p.frm, .int .i64 p.to] T)).heap.size (w.alloc (.cells #[.int .i64 p.id, .int .i64 p.kind, .int .i64 p.frm, .int .i64 p.to] T)) w1) :
    PthAt w1 ⟨w.heap.size, 0, none⟩ p ∧ w.heap.size + 1 ≤ w1.heap.size ∧ Below w.heap.size w w1 := by
  have hs := hb.size
  rw [heap_size_alloc'] at hs
  exact ⟨pth_of_block ((hb.block _ (by rw [heap_size_alloc']; omega)).trans (heap_alloc_new w _)), hs, ((Below.refl _ _).alloc (Nat.le_refl _) _).trans (hb.mono (by rw [heap_size_alloc']; omega))⟩
theorem boxed_two {w w1 : World} {p q : Pth} {T T2 : TypeId} (hb : Below ((w.alloc (.cells #[.int .i64 p.id, .int .i64 p.kind, .int .i64 p.frm, .int .i64 p.to] T)).alloc (.cells #[.int .i64 q.id, .int .i64 q.kind, .int .i64 q.frm, .int .i64 q.to] T2)).heap.size ((w.alloc (.cells #[.int .i64 p.id, .int .i64 p.kind, .int .i64 p.frm, .int .i64 p.to] T)).alloc (.cells #[.int .i64 q.id, .int .i64 q.kind, .int .i64 q.frm, .int .i64 q.to] T2)) w1) :
    PthAt w1 ⟨w.heap.size, 0, none⟩ p ∧ PthAt w1 ⟨w.heap.size + 1, 0, none⟩ q ∧ w.heap.size + 2 ≤ w1.heap.size ∧ Below w.heap.size w w1 := by
  have hs := hb.size
  rw [heap_size_alloc', heap_size_alloc'] at hs
  obtain ⟨p0, p1, p2, p3⟩ := p
  obtain ⟨q0, q1, q2, q3⟩ := q
  refine ⟨pth_of_block (T := T) (fr := (0, 0)) ((hb.block _ (by rw [heap_size_alloc', heap_size_alloc']; omega)).trans ((Below.heap_alloc _ _ _ (by rw [heap_size_alloc']; omega)).trans (heap_alloc_new w _))), pth_of_block (T := T2) (fr := (0, 0)) ((hb.block _ (by rw [heap_size_alloc', heap_size_alloc']; omega)).trans ?_), hs, (((Below.refl _ _).alloc (Nat.le_refl _) _).alloc (by rw [heap_size_alloc']; omega) _).trans (hb.mono (by rw [heap_size_alloc', heap_size_alloc']; omega))⟩
  have h := heap_alloc_new (w.alloc (.cells #[.int .i64 p0, .int .i64 p1, .int .i64 p2, .int .i64 p3] T)) (.cells #[.int .i64 q0, .int .i64 q1, .int .i64 q2, .int .i64 q3] T2)
  rwa [heap_size_alloc'] at h
end Go.Proofs.Ytmcoeafkbpeelaa
