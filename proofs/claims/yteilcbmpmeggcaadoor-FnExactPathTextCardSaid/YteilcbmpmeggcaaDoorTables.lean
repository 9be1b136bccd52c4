/- What the listed package-level variables give a walk: strconv's table of powers of ten; and strconv.Itoa, out of the shelf. -/
import Derived.Test.YteilcbmpmeggcaaDoorShelf
import Derived.Test.YteilcbmpmeggcaaDoorLawLaid
import Derived.Test.YteilcbmpmeggcaaDoorParse
import Derived.Lib.LaidTab
import Derived.Lib.SmallJoins
import Derived.Lib.ItoaNum
namespace Go.Proofs.YteilcbmpmeggcaaDoor
open Go.RowKit

def Tabs (w : World) : Prop := Lib.TabIs Tryd.prog w "internal/strconv.uint64pow10" .u64 Lib.pow10Tab
theorem pow10_global : Tryd.prog.globalNamed "internal/strconv.uint64pow10" = some 2 := by kernel_rfl
theorem Tabs.below {w w' : World} {B : Nat} (h : Tabs w) (hb : Below B w w') (hB : w.heap.size ≤ B) : Tabs w' := Joins.tab_stays pow10_global h hb hB
theorem tabs_of_laid {laid : List (String × DataW Unit)} {W : World} (hL : laidMetH Tryd.prog laid W)
    (e : (laid.filter fun x => x.1 == "internal/strconv.uint64pow10") = [("internal/strconv.uint64pow10", Lib.tabData .u64 Lib.pow10Tab)]) : Tabs W := by
  have h := hL.filter fun x => x.1 == "internal/strconv.uint64pow10"
  rw [e, MakeChecks.laidMetH_plain _ _ _ (by rfl)] at h
  exact Lib.tabIs_of_head pow10_global (by kernel_rfl) Tryd.underlying156 Tryd.underlying142 (by kernel_rfl) (by kernel_rfl) h

theorem fmtI_itoa (n : Int) : Lib.itoa n = fmtI n := by
  have hd : ∀ u : Nat, u ≠ 0 → Lib.decDigits u = digs u := by
    intro u
    induction u using Nat.strongRecOn with
    | _ u ih =>
      intro h
      rw [Lib.decDigits, digs_pos h]
      by_cases h10 : u < 10
      · rw [dif_pos h10, show u / 10 = 0 from by omega, digs_zero, show u % 10 = u from by omega]
        rfl
      · rw [dif_neg h10, ih (u / 10) (by omega) (by omega)]
  unfold Lib.itoa fmtI
  by_cases h0 : n = 0
  · subst h0
    rw [if_neg (by decide), if_pos rfl]
    show Lib.decDigits 0 = [48]
    rw [Lib.decDigits, dif_pos (by decide)]
    rfl
  · rw [if_neg h0]
    by_cases hn : n < 0
    · rw [if_pos hn, if_pos hn, hd _ (by omega)]
    · rw [if_neg hn, if_neg hn, hd _ (by omega), show n.toNat = n.natAbs from by omega]

theorem below_grow0 (w : World) (B : Nat) (hB : B ≤ w.heap.size) (os : Array Obj) : Below B w (Sort.grow w os) := by
  refine ⟨rfl, rfl, rfl, by simp [Sort.grow], fun i hi => ?_⟩
  show (w.heap ++ os)[i]? = _
  rw [Array.getElem?_append_left (by omega)]
theorem below_grow (w : World) (k : Nat) (os : Array Obj) : Below w.heap.size w (Sort.grow (w.drewN k) os) :=
  (belowN (Below.refl _ _) k).trans (below_grow0 _ _ (belowN (Below.refl 0 w) k).size os)

theorem impl_FormatInt (n : Int) (w : World) (h1 : -9223372036854775808 ≤ n) (h2 : n ≤ 9223372036854775807) (ht : Tabs w) :
    Calls Tryd.prog 56 #[.int .i64 n] w fun e w' => e = .returned (.string ⟨(fmtI n).toArray⟩) ∧ Below w.heap.size w w' := by
  have HT := Lib.hid ht
  clear ht
  go_enter Tryd.func56, Tryd.ntmps56
  go_wp2_with fail
  refine (Tryd.strconv_Itoa n h1 h2 _ HT.out).mono ?_
  rintro e w' ⟨rfl, k, os, rfl⟩
  go_wp2
  go_ret
  exact ⟨by rw [fmtI_itoa]; rfl, below_grow _ _ _⟩
end Go.Proofs.YteilcbmpmeggcaaDoor
