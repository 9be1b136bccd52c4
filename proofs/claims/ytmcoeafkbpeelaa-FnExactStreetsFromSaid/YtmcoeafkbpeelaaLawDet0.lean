/- A cell of a law's argument that is a bool. -/
import Derived.Test.YtmcoeafkbpeelaaLawPth
namespace Go.Proofs.Ytmcoeafkbpeelaa
open Go.ChangeShapes Go.WideShapes Go.ChangeAt Go.RowKit Go.Joins
open Go.Deep (oneCellFields open_slice hone_of)

theorem cell_boolF {H : Type} {enc : TypeId × Value → H} {P : Program} {W : World} {b0 : Nat} {sp : Nat → Bool} {hd : Bool} {n : Nat} {t : TypeId} {v : Value} {y : DataW H × List MemPlace} (ht : P.underlying t = some .bool) (h : DataW.trod enc P W b0 sp hd n t [v] = some y) : ∃ a : Bool, v = .bool a ∧ y.2 = [] := by
  obtain ⟨a, h1, h2⟩ := DataW.trod_bool ht h
  simp at h1
  exact ⟨a, h1, by rw [h2]⟩
end Go.Proofs.Ytmcoeafkbpeelaa
