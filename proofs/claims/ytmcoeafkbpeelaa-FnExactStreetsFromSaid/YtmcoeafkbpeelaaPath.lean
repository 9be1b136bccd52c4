/- Contracts of chapter 4: program and model. -/
import Derived.Test.YtmcoeafkbpeelaaPth
import Derived.Test.YtmcoeafkbpeelaaHelp
namespace Go.Proofs.Ytmcoeafkbpeelaa
open Go.RowKit
set_option linter.unusedVariables false

theorem boxed {w w1 : World} {cs : Array Value} {T : TypeId} {fr : Nat × Nat} (hb : Below (w.alloc (.cells cs T fr)).heap.size (w.alloc (.cells cs T fr)) w1) (j : Nat) : w1.cell? ⟨w.heap.size, j, none⟩ = cs[j]? := by
  rw [hb.cell (p := ⟨w.heap.size, j, none⟩) (by simp), cell_of_row _ _ j cs T fr (heap_alloc_new w _)]
theorem cell_past {w : World} {p : Addr} {v : Value} (h : w.cell? p = some v) (o : Obj) : (w.alloc o).cell? p = some v := by
  have hlt : p.block < w.heap.size := by
    rcases Nat.lt_or_ge p.block w.heap.size with h' | h'
    · exact h'
    · simp [World.cell?, Array.getElem?_eq_none h'] at h
  exact (World.cell?_of_block (Below.heap_alloc w o _ hlt)).trans h
end Go.Proofs.Ytmcoeafkbpeelaa
