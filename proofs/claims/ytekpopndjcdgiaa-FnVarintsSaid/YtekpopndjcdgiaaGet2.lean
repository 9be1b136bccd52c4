/- Contracts of chapter 2's readers: the program. -/
import Derived.Test.YtekpopndjcdgiaaCur
import Derived.Test.YtekpopndjcdgiaaPut
namespace Go.Proofs.Ytekpopndjcdgiaa
open Go.RowKit
set_option linter.unusedVariables false

theorem below_of_grown {a w : World} {g : Nat} (h : a.grownBy w (some g)) {B : Nat} (hB : B ≤ g) (hs : B ≤ a.heap.size) : Below B a w := below_of_only h hB hs
theorem impl_ReadUvarint (A : Option Addr) (n c B : Nat) (zs : List Int) (a : Int) (w : World) (h : IntsAt .u8 w B A n zs) (hz : ∀ z ∈ zs, 0 ≤ z ∧ z ≤ 255) (hn : n ≤ 1099511627776) (hB : B ≤ w.heap.size) :
    Calls Try.prog 16 #[.slice A n c, .int .i64 a] w fun e w' => e = .returned (getV (vget zs a)) ∧ Below w.heap.size w w' := by
  have hl := h.1
  by_cases hin : 0 ≤ a ∧ a ≤ n
  · obtain ⟨p, rfl⟩ := Int.eq_ofNat_of_zero_le hin.1
    have hp : p ≤ n := by omega
    rw [vget_nat]
    clear hin
    go_enter Try.func16, Try.ntmps16
    go_wp2_with fail
    refine (impl_cursorAt_yes A n c p _ hp).mono ?_
    rintro e w1 ⟨rfl, hb1⟩
    have hs1 := hb1.size
    go_wp2_with fail
    refine (cursor_readUvarint w1.heap.size A n c B p zs _ (h.keep fun q hq => ((hb1.alloc hs1 _).cell (by omega))) hz hn (by omega) hp (heap_alloc_new w1 _)).mono ?_
    rintro e w2 ⟨rfl, hg2, hc2⟩
    have hb2 := ((hb1.alloc hs1 _).trans (below_of_grown hg2 hs1 (by simp; omega)))
    have HC := Lib.hid hc2
    have HB := Lib.hid hb2
    clear hg2 hc2 hb2
    cases hv : vrd zs 6 p 0 with
    | none =>
      have HR := Lib.hid (congrArg getV hv)
      clear hv
      simp only [curV]
      go_wp2
      go_ret3
      exact ⟨by rw [HR.out]; rfl, HB.out⟩
    | some mq =>
      obtain ⟨m, q⟩ := mq
      have HR := Lib.hid (congrArg getV hv)
      have hcu := HC.out m q hv
      clear hv
      have c1 : w2.cell? ⟨w1.heap.size, 1, none⟩ = some (.int .i64 q) := by
        have hg : w2.heap[w1.heap.size]? = _ := hcu
        simp [World.cell?, hg]
      have HM := Lib.hid hcu
      clear hcu
      simp only [curV]
      go_wp2
      go_quiet (fail)
      go_wp2
      go_ret3
      exact ⟨by rw [HR.out]; rfl, belowN HB.out _⟩
  · have hf : inB a 0 n = false := by simp [inB]; omega
    have hv : vget zs a = none := by
      by_cases h0 : a < 0
      · exact vget_neg h0
      · exact vget_out (by omega)
    have HR := Lib.hid (congrArg getV hv)
    clear hv hin
    go_enter Try.func16, Try.ntmps16
    go_wp2_with fail
    refine (impl_cursorAt_no A n c a _ hf).mono ?_
    rintro e w1 ⟨rfl, hb1⟩
    have hs1 := hb1.size
    clear hf
    go_wp2
    go_ret3
    exact ⟨by rw [HR.out]; rfl, hb1.alloc hs1 _⟩
end Go.Proofs.Ytekpopndjcdgiaa
