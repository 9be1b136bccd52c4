/- ReadUvarint as its exact law meets it. -/
import Derived.Test.YtekpopndjcdgiaaGet
import Derived.Test.YtekpopndjcdgiaaGet2
import Derived.Test.YtekpopndjcdgiaaMem
namespace Go.Proofs.Ytekpopndjcdgiaa
open Go.RowKit
set_option linter.unusedVariables false

def rdU (zs : List Int) (a : Int) : Int × Int × Bool := match vget zs a with | none => (0, 0, false) | some (m, q) => ((m : Int), (q : Int), true)
theorem getV_rdU {zs : List Int} {a : Int} {m q : Int} {b : Bool} (h : rdU zs a = (m, q, b)) : getV (vget zs a) = .tuple #[.int .i64 m, .int .i64 q, .bool b] := by
  unfold rdU at h
  cases hv : vget zs a with
  | none => rw [hv] at h; injection h with h1 h2; injection h2 with h2 h3; subst h1; subst h2; subst h3; rfl
  | some r => obtain ⟨x, y⟩ := r; rw [hv] at h; injection h with h1 h2; injection h2 with h2 h3; subst h1; subst h2; subst h3; rfl
theorem sp_ReadUvarint (A : Option Addr) (n c : Nat) (zs : List Int) (a : Int) (w : World) (h : Sl .u8 w A n c zs) (hs : n ≤ 1048576) (wa : (Lit.int .i64 a).wf = true) (r0 r1 : Int) (r2 : Bool) (hr : rdU zs a = (r0, r1, r2)) :
    Calls Try.prog 19 #[.slice A n c, .int .i64 a] w fun e w' => e = .returned (.tuple #[.int .i64 r0, .int .i64 r1, .bool r2]) ∧ Below w.heap.size w w' :=
  (spec_ReadUvarint A n c _ zs a w h.ints h.u8 h.small).mono fun e w' ⟨h1, h2⟩ => ⟨by rw [h1, getV_rdU hr], h2 ▸ Below.refl _ _⟩
theorem im_ReadUvarint (A : Option Addr) (n c : Nat) (zs : List Int) (a : Int) (w : World) (h : Sl .u8 w A n c zs) (hs : n ≤ 1048576) (wa : (Lit.int .i64 a).wf = true) (r0 r1 : Int) (r2 : Bool) (hr : rdU zs a = (r0, r1, r2)) :
    Calls Try.prog 16 #[.slice A n c, .int .i64 a] w fun e w' => e = .returned (.tuple #[.int .i64 r0, .int .i64 r1, .bool r2]) ∧ Below w.heap.size w w' :=
  (impl_ReadUvarint A n c _ zs a w h.ints h.u8 h.small (Nat.le_refl _)).mono fun e w' ⟨h1, h2⟩ => ⟨by rw [h1, getV_rdU hr], h2⟩
end Go.Proofs.Ytekpopndjcdgiaa
