/- PathText: the model. -/
import Derived.Test.YteilcbmpmeggcaaDoorTextI
import Derived.Deep.RegionHeld3
namespace Go.Proofs.YteilcbmpmeggcaaDoor
open Go.RowKit
set_option linter.unusedVariables false

theorem fmtB (n : Int) (w : World) (h1 : -9223372036854775808 ≤ n) (h2 : n ≤ 9223372036854775807) :
    Calls Tryd.prog 89 #[.int .i64 n] w fun e w' => e = .returned (.string (bs (fmtI n))) ∧ Below w.heap.size w w' := spec_FormatInt n w h1 h2
theorem bcell {W w1 : World} (hb : Below W.heap.size W w1) : ∀ b o, b < W.heap.size → w1.cell? ⟨b, o, none⟩ = W.cell? ⟨b, o, none⟩ := fun b o h => hb.cell (p := ⟨b, o, none⟩) h
theorem bstep {a w w' : World} (hb : Below w.heap.size w w') (h : Below a.heap.size a w) : Below a.heap.size a w' := h.trans (hb.mono h.size)
theorem balloc {a w : World} {o : Obj} (h : Below a.heap.size a w) : Below a.heap.size a (w.alloc o) := h.alloc h.size o
theorem bdrew {a w : World} (h : Below a.heap.size a w) : Below a.heap.size a w.drew := ⟨h.os, h.tape, h.output, h.size, h.block⟩
end Go.Proofs.YteilcbmpmeggcaaDoor
