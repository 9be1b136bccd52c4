/- Rows of elements of two or three cells. No program. -/
import Derived.Test.YtmcoeafkbpeelaaRow
import Derived.Laws.Rows
namespace Go.Proofs.Ytmcoeafkbpeelaa
open Go.RowKit

theorem stored2 {w : World} {g : Nat} {x0 x1 a b : Value} {E : TypeId} (h : w.heap[g]? = some (.cells #[x0, x1] E)) : ((w.setCell ⟨g, 0, none⟩ a).setCell ⟨g, 1, none⟩ b).heap[g]? = some (.cells #[a, b] E) :=
  heap_setCell_same _ g 1 _ E b (heap_setCell_same w g 0 _ E a h)
theorem stored3 {w : World} {g : Nat} {x0 x1 x2 a b c : Value} {E : TypeId} (h : w.heap[g]? = some (.cells #[x0, x1, x2] E)) : (((w.setCell ⟨g, 0, none⟩ a).setCell ⟨g, 1, none⟩ b).setCell ⟨g, 2, none⟩ c).heap[g]? = some (.cells #[a, b, c] E) :=
  heap_setCell_same _ g 2 _ E c (heap_setCell_same _ g 1 _ E b (heap_setCell_same w g 0 _ E a h))
theorem stored4 {w : World} {g : Nat} {x0 x1 x2 x3 a b c d : Value} {E : TypeId} (h : w.heap[g]? = some (.cells #[x0, x1, x2, x3] E)) : ((((w.setCell ⟨g, 0, none⟩ a).setCell ⟨g, 1, none⟩ b).setCell ⟨g, 2, none⟩ c).setCell ⟨g, 3, none⟩ d).heap[g]? = some (.cells #[a, b, c, d] E) :=
  heap_setCell_same _ g 3 _ E d (heap_setCell_same _ g 2 _ E c (heap_setCell_same _ g 1 _ E b (heap_setCell_same w g 0 _ E a h)))
theorem unstored2 {w : World} {g k : Nat} {a b : Value} {x : Obj} (h : w.heap[k]? = some x) (hk : k ≠ g) : ((w.setCell ⟨g, 0, none⟩ a).setCell ⟨g, 1, none⟩ b).heap[k]? = some x :=
  (heap_setCell_other _ _ k b hk).trans ((heap_setCell_other w _ k a hk).trans h)
theorem unstored3 {w : World} {g k : Nat} {a b c : Value} {x : Obj} (h : w.heap[k]? = some x) (hk : k ≠ g) : (((w.setCell ⟨g, 0, none⟩ a).setCell ⟨g, 1, none⟩ b).setCell ⟨g, 2, none⟩ c).heap[k]? = some x :=
  (heap_setCell_other _ _ k c hk).trans ((heap_setCell_other _ _ k b hk).trans ((heap_setCell_other w _ k a hk).trans h))
theorem unstored4 {w : World} {g k : Nat} {a b c d : Value} {x : Obj} (h : w.heap[k]? = some x) (hk : k ≠ g) : ((((w.setCell ⟨g, 0, none⟩ a).setCell ⟨g, 1, none⟩ b).setCell ⟨g, 2, none⟩ c).setCell ⟨g, 3, none⟩ d).heap[k]? = some x :=
  (heap_setCell_other _ _ k d hk).trans ((heap_setCell_other _ _ k c hk).trans ((heap_setCell_other _ _ k b hk).trans ((heap_setCell_other w _ k a hk).trans h)))
theorem add_plusF (q : Addr) (i : Nat) (h : 0 < i) : q.add i = ⟨q.block, q.off + i, none⟩ := by unfold Addr.add; rw [if_neg (by omega)]
theorem heap_size_allocF (w : World) (o : Obj) : (w.alloc o).heap.size = w.heap.size + 1 := by simp
theorem heap_old (w : World) (o : Obj) {g : Nat} {x : Obj} (h : w.heap[g]? = some x) : (w.alloc o).heap[g]? = some x := (Below.heap_alloc _ _ _ (lt_of_block h)).trans h
theorem heap_newF (w : World) (o : Obj) {g : Nat} (h : w.heap.size = g) : (w.alloc o).heap[g]? = some o := by subst h; exact heap_alloc_new w o
theorem one_block {w wA : World} {o0 : Obj} (h : wA = w.alloc o0) : wA.heap[w.heap.size]? = some o0 ∧ wA.heap.size = w.heap.size + 1 ∧ Below w.heap.size w wA := by
  subst h
  exact ⟨heap_alloc_new w o0, heap_size_allocF _ _, (Below.refl _ _).alloc (Nat.le_refl _) _⟩
theorem two_blocks {w wA : World} {o0 o1 : Obj} (h : wA = (w.alloc o0).alloc o1) : wA.heap[w.heap.size]? = some o0 ∧ wA.heap[w.heap.size + 1]? = some o1 ∧ wA.heap.size = w.heap.size + 2 ∧ Below w.heap.size w wA := by
  subst h
  refine ⟨heap_old _ _ (heap_alloc_new w o0), heap_newF _ _ (heap_size_allocF _ _), ?_, ((Below.refl _ _).alloc (Nat.le_refl _) _).alloc ?_ _⟩
  · rw [heap_size_allocF, heap_size_allocF]
  · rw [heap_size_allocF]; omega
theorem three_blocks {w wA : World} {o0 o1 o2 : Obj} (h : wA = ((w.alloc o0).alloc o1).alloc o2) : wA.heap[w.heap.size]? = some o0 ∧ wA.heap[w.heap.size + 1]? = some o1 ∧ wA.heap[w.heap.size + 1 + 1]? = some o2 ∧ wA.heap.size = w.heap.size + 3 ∧ Below w.heap.size w wA := by
  subst h
  refine ⟨heap_old _ _ (heap_old _ _ (heap_alloc_new w o0)), heap_old _ _ (heap_newF _ _ (heap_size_allocF _ _)), heap_newF _ _ ?_, ?_, (((Below.refl _ _).alloc (Nat.le_refl _) _).alloc ?_ _).alloc ?_ _⟩
  · rw [heap_size_allocF, heap_size_allocF]
  · rw [heap_size_allocF, heap_size_allocF, heap_size_allocF]
  · rw [heap_size_allocF]; omega
  · rw [heap_size_allocF, heap_size_allocF]; omega
theorem results_cell_tmpF {fn : Func} {p q : Tmp} {ty : TypeId} (h : fn.results = #[.cell p ty, .tmp q]) (tmps : Array Value) (P : Program) (w : World) :
    (results fn tmps).run P w = ((asAddr (tmps.getD p undef)).run P w).andThen fun a w₁ => ((loadVar ty a).run P w₁).andThen fun v w₂ => .ok (.tuple #[v, tmps.getD q undef]) w₂ := by
  simp only [results, h]
  simp [Sem.run_bind, Result.andThen]
theorem set2 {pre rest : List Value} {z0 z1 a b : Value} {m : Nat} (h : pre.length = m) : (((pre ++ z0 :: z1 :: rest).set m a).set (m + 1) b) = pre ++ a :: b :: rest := by
  rw [set_at h]
  have e1 : pre ++ a :: z1 :: rest = (pre ++ [a]) ++ z1 :: rest := by simp
  rw [e1, set_at (by simp [h])]
  simp
theorem drop2 {zs : List Value} {m : Nat} (h : m + 2 ≤ zs.length) : ∃ z0 z1, zs.drop m = z0 :: z1 :: zs.drop (m + 2) :=
  ⟨zs[m], zs[m + 1], by rw [List.drop_eq_getElem_cons (by omega), List.drop_eq_getElem_cons (by omega)]⟩
theorem set3 {pre rest : List Value} {z0 z1 z2 a b c : Value} {m : Nat} (h : pre.length = m) : (((pre ++ z0 :: z1 :: z2 :: rest).set m a).set (m + 1) b).set (m + 2) c = pre ++ a :: b :: c :: rest := by
  rw [set_at h]
  have e1 : pre ++ a :: z1 :: z2 :: rest = (pre ++ [a]) ++ z1 :: z2 :: rest := by simp
  rw [e1, set_at (by simp [h])]
  have e2 : (pre ++ [a]) ++ b :: z2 :: rest = (pre ++ [a, b]) ++ z2 :: rest := by simp
  rw [e2, set_at (by simp [h])]
  simp
theorem drop3 {zs : List Value} {m : Nat} (h : m + 3 ≤ zs.length) : ∃ z0 z1 z2, zs.drop m = z0 :: z1 :: z2 :: zs.drop (m + 3) :=
  ⟨zs[m], zs[m + 1], zs[m + 2], by rw [List.drop_eq_getElem_cons (by omega), List.drop_eq_getElem_cons (by omega), List.drop_eq_getElem_cons (by omega)]⟩
theorem set5 {pre rest : List Value} {z0 z1 z2 z3 z4 a b c d e : Value} {m : Nat} (h : pre.length = m) : (((((pre ++ z0 :: z1 :: z2 :: z3 :: z4 :: rest).set m a).set (m + 1) b).set (m + 2) c).set (m + 3) d).set (m + 4) e = pre ++ a :: b :: c :: d :: e :: rest := by
  rw [set4 h]
  have e1 : pre ++ a :: b :: c :: d :: z4 :: rest = (pre ++ [a, b, c, d]) ++ z4 :: rest := by simp
  rw [e1, set_at (by simp [h])]
  simp
theorem drop5 {zs : List Value} {m : Nat} (h : m + 5 ≤ zs.length) : ∃ z0 z1 z2 z3 z4, zs.drop m = z0 :: z1 :: z2 :: z3 :: z4 :: zs.drop (m + 5) :=
  ⟨zs[m], zs[m + 1], zs[m + 2], zs[m + 3], zs[m + 4], by rw [List.drop_eq_getElem_cons (by omega), List.drop_eq_getElem_cons (by omega), List.drop_eq_getElem_cons (by omega), List.drop_eq_getElem_cons (by omega), List.drop_eq_getElem_cons (by omega)]⟩
end Go.Proofs.Ytmcoeafkbpeelaa
