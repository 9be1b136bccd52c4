/- The draws of chapter 2. -/
import Derived.Test.YtglgmikeancimaaDoorDraw
import Derived.Test.YtglgmikeancimaaDoorPut
namespace Go.Proofs.YtglgmikeancimaaDoor
open Go.RowKit
set_option linter.unusedVariables false

theorem only_push {k : IntKind} {E : TypeId} {a w0 w w' : World} {g lo : Nat} {v : Value} {zs : List Int} (h : Own k E w0 lo v zs) (ha : a.grownBy w (some g)) (hl : a.heap.size ≤ lo) (hg : w.grownBy w' v.ownBlock) : a.grownBy w' (some g) :=
  ⟨hg.os.trans ha.os, hg.tape.trans ha.tape, hg.output.trans ha.output, Nat.le_trans ha.size hg.size, fun i hi hne => (hg.block i (Nat.lt_of_lt_of_le hi ha.size) (fun e => by have := (h.block i e.symm).1; omega)).trans (ha.block i hi hne)⟩
theorem Own.nilcap'' {k : IntKind} {E : TypeId} {w : World} {lo : Nat} {A : Option Addr} {n c : Nat} {zs : List Int} (h : Own k E w lo (.slice A n c) zs) : A = none → n = 0 ∧ c = 0 := by
  rintro rfl
  rcases h.shape with ⟨e, rfl⟩ | ⟨g, cap, e, _⟩
  · injection e with e1 e2 e3; exact ⟨e2, e3⟩
  · injection e with e1; cases e1
theorem only_bare {a w : World} {g : Nat} (ha : a.grownBy w (some g)) (o : Obj) : a.grownBy (w.alloc o) (some g) := only_alloc ha o
end Go.Proofs.YtglgmikeancimaaDoor
