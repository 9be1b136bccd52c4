/- Names out of a list: nameOf, StateName, ModeName: program and model. -/
import Derived.Test.YtdlcjmdkafebpaaInts
import Derived.Test.YtdlcjmdkafebpaaFlat
namespace Go.Proofs.Ytdlcjmdkafebpaa
open Go.RowKit
set_option linter.unusedVariables false

/-- one of three names. -/
def nameT (a b c : ByteArray) (n : Int) : ByteArray := if n = 0 then a else if n = 1 then b else if n = 2 then c else ⟨#[]⟩
theorem nameT_out {a b c : ByteArray} {n : Int} (h : inB n 0 2 = false) : nameT a b c n = ⟨#[]⟩ := by
  have := inB_f h
  unfold nameT
  rw [if_neg (by omega), if_neg (by omega), if_neg (by omega)]
theorem impl_nameOf (a b c : ByteArray) (n : Int) (g : Nat) (w : World) (h0 : w.cell? ⟨g, 0, none⟩ = some (.string a)) (h1 : w.cell? ⟨g, 1, none⟩ = some (.string b)) (h2 : w.cell? ⟨g, 2, none⟩ = some (.string c)) (hg : g < w.heap.size) :
    Calls Try.prog 112 #[.int .i64 n, .slice (some ⟨g, 0, none⟩) 3 3] w fun e w' => e = .returned (.string (nameT a b c n)) ∧ Below w.heap.size w w' := by
  cases h : inB n 0 2
  · have HR := Lib.hid (nameT_out (a := a) (b := b) (c := c) h)
    have H := Lib.hid h
    clear h
    go_enter Try.func112, Try.ntmps112
    go_wp2_with (go_at_call 122; refine (impl_InRange _ _ _ _).mono ?_; rintro e w' ⟨rfl, rfl⟩; rw [H.out])
    go_ret
    exact ⟨by rw [HR.out]; rfl, Below.refl _ _⟩
  · obtain ⟨l1, l2⟩ := inB_t h
    have H := Lib.hid h
    clear h
    have h3 : n = 0 ∨ n = 1 ∨ n = 2 := by omega
    clear l1 l2
    rcases h3 with rfl | rfl | rfl
    all_goals
      go_enter Try.func112, Try.ntmps112
      go_wp2_with (go_at_call 122; refine (impl_InRange _ _ _ _).mono ?_; rintro e w' ⟨rfl, rfl⟩; rw [H.out])
      go_ret
      exact ⟨rfl, Below.refl _ _⟩
end Go.Proofs.Ytdlcjmdkafebpaa
