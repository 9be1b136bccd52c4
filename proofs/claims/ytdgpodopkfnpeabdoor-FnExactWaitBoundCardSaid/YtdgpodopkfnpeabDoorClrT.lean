/- ClearOf, LongestClear: the program; its table of seconds. -/
import Derived.Test.YtdgpodopkfnpeabDoorClrP
import Derived.Test.YtdgpodopkfnpeabDoorConfI
import Derived.Test.YtdgpodopkfnpeabDoorInts
import Derived.Test.YtdgpodopkfnpeabDoorLawLaid
import Derived.Lib.LaidTab
import Derived.Lib.SmallJoins
namespace Go.Proofs.YtdgpodopkfnpeabDoor
open Go.RowKit
set_option linter.unusedVariables false

def clrTab : List Int := [0, 2, 5, 3]
/-- the program's table. -/
def Clrs (w : World) : Prop := Lib.TabIs Tryd.prog w "loop.example/g03006/impl.clearTimes" .i64 clrTab
theorem clr_global : Tryd.prog.globalNamed "loop.example/g03006/impl.clearTimes" = some 1 := by kernel_rfl
theorem Clrs.below {w w' : World} {B : Nat} (h : Clrs w) (hb : Below B w w') (hB : w.heap.size ≤ B) : Clrs w' := Joins.tab_stays clr_global h hb hB
theorem clrs_of_laid {laid : List (String × DataW Unit)} {W : World} (hL : laidMetH Tryd.prog laid W)
    (e : (laid.filter fun x => x.1 == "loop.example/g03006/impl.clearTimes") = [("loop.example/g03006/impl.clearTimes", Lib.tabData .i64 clrTab)]) : Clrs W := by
  have h := hL.filter fun x => x.1 == "loop.example/g03006/impl.clearTimes"
  rw [e, MakeChecks.laidMetH_plain _ _ _ (by rfl)] at h
  exact Lib.tabIs_of_head clr_global (by kernel_rfl) Tryd.underlying52 Tryd.underlying3 (by kernel_rfl) (by kernel_rfl) h
theorem impl_ClearOf (p : Pth) (w : World) (ht : Clrs w) : Calls Tryd.prog 29 #[p.val] w fun e w' => e = .returned (.int .i64 (clearN p)) ∧ Below w.heap.size w w' := by
  have hr := isP_facts p
  have hcc := fun x => impl_IsPath p x
  have HR : Hid (clearN p = if isP p then (if p.kind = 1 then 2 else if p.kind = 2 then 5 else 3) else 0) := Lib.hid rfl
  have HT := Lib.hid ht
  clear ht
  obtain ⟨a, b, c, d⟩ := p
  simp only [Pth.val] at *
  have hb0 := (Below.refl w.heap.size w).alloc (Nat.le_refl _) (.cells #[.int .i64 a, .int .i64 b, .int .i64 c, .int .i64 d] 41)
  have HB0 := Lib.hid hb0
  clear hb0
  go_enter Tryd.func29, Tryd.ntmps29
  go_wp2_with fail
  refine (hcc _).mono ?_
  rintro e w1 ⟨rfl, hb1⟩
  have HB := Lib.hid (HB0.out.trans (hb1.mono HB0.out.size))
  have k0 : w1.cell? ⟨w.heap.size, 1, none⟩ = some (.int .i64 b) := (hb1.cell (p := ⟨w.heap.size, 1, none⟩) (by simp)).trans (by go_simp)
  have HT1 := Lib.hid (HT.out.below HB.out (Nat.le_refl _))
  clear hb1 hcc
  cases hp : isP ⟨a, b, c, d⟩
  · rw [hp] at HR
    clear hr hp
    go_wp2
    go_ret
    exact ⟨by rw [HR.out]; rfl, HB.out⟩
  · rw [hp] at HR
    obtain ⟨_, ⟨b1, b2⟩, _⟩ := hr hp
    clear hr hp
    have hb : b = 1 ∨ b = 2 ∨ b = 3 := by omega
    rcases hb with rfl | rfl | rfl
    · have t1 := Lib.TabIs.cell HT1.out clr_global 1 (by decide)
      go_wp2
      go_ret
      exact ⟨by rw [HR.out]; rfl, HB.out⟩
    · have t1 := Lib.TabIs.cell HT1.out clr_global 2 (by decide)
      go_wp2
      go_ret
      exact ⟨by rw [HR.out]; rfl, HB.out⟩
    · have t1 := Lib.TabIs.cell HT1.out clr_global 3 (by decide)
      go_wp2
      go_ret
      exact ⟨by rw [HR.out]; rfl, HB.out⟩
set_option maxHeartbeats 1000000 in
theorem impl_longestC (A : Option Addr) (n c B : Nat) (ps : List Pth) (w : World) (h : PthsAt w B A n ps) (hB : B ≤ w.heap.size) (hn : n ≤ 4294967296) (ht : Clrs w) :
    Calls Tryd.prog 25 #[.slice A n c] w fun e w' => e = .returned (.int .i64 (mostTo ps n)) ∧ Below w.heap.size w w' := by
  have hl := h.1
  have HT := Lib.hid ht
  clear ht
  go_enter Tryd.func25, Tryd.ntmps25
  go_wp2
  go_loopw [3, 8] (fun x i wr => ∃ k : Nat, k ≤ n ∧ i = .int .i64 k ∧ x = .int .i64 (mostTo ps k) ∧ Below w.heap.size w wr) (fun _ i _ => n - (intOf i).toNat)
  case atStart => exact ⟨0, Nat.zero_le _, rfl, rfl, Below.refl _ _⟩
  case round =>
    obtain ⟨k, hk, rfl, rfl, hbl⟩ := hrel
    have hsz := hbl.size
    by_cases hlt : k < n
    · obtain ⟨ad, p, rfl, hab, hp, hq⟩ := h.at hlt
      obtain ⟨c0, c1, c2, c3⟩ := hq.below hbl (by omega)
      have HM : Hid (mostTo ps (k + 1) = maxI (mostTo ps k) (clearN p)) := Lib.hid (by show maxI _ (clearN (pAt ps k)) = _; rw [pAt_some hp])
      have hb1 := hbl.alloc hsz (.cells #[.int .i64 p.id, .int .i64 p.kind, .int .i64 p.frm, .int .i64 p.to] 41)
      have hcc := impl_ClearOf p _ (HT.out.below hb1 (Nat.le_refl _))
      have HB1 := Lib.hid hb1
      have hv : p.val = .agg #[.int .i64 p.id, .int .i64 p.kind, .int .i64 p.frm, .int .i64 p.to] := rfl
      rw [hv] at hcc
      generalize mostTo ps k = m at *
      clear hp hq hv hb1 hbl
      go_wp2_with fail
      refine hcc.mono ?_
      rintro e w2 ⟨rfl, hb2⟩
      have HB2 := Lib.hid (HB1.out.trans (hb2.mono HB1.out.size))
      clear hb2 hcc c0 c1 c2 c3
      generalize clearN p = cn at *
      go_wp2_with fail
      refine (impl_Max _ _ _).mono ?_
      rintro e w3 ⟨rfl, hb3⟩
      have HB3 := Lib.hid (HB2.out.trans (hb3.mono HB2.out.size))
      clear hb3
      go_wp2
      go_roundw
      case rel => exact ⟨k + 1, by omega, by go_num, by rw [HM.out], HB3.out⟩
      case measure => simp [intOf]; omega
    · obtain rfl : k = n := by omega
      go_wp2
      go_ret
      exact ⟨rfl, hbl⟩
theorem impl_LongestClear (A : Option Addr) (n c B : Nat) (ps : List Pth) (w : World) (h : PthsAt w B A n ps) (hB : B ≤ w.heap.size) (hn : n ≤ 4294967296) (ht : Clrs w) :
    Calls Tryd.prog 18 #[.slice A n c] w fun e w' => e = .returned (.int .i64 (longC ps)) ∧ Below w.heap.size w w' := by
  have hl := h.1
  have HAP := Lib.hid (impl_ArePaths A n c B ps w h hB hn)
  have HT := Lib.hid ht
  have HP := Lib.hid h
  clear ht h
  cases ha : arePs ps
  · have HR : Hid (longC ps = 0) := Lib.hid (by unfold longC; rw [ha]; rfl)
    have HA := Lib.hid ha
    clear ha
    go_enter Tryd.func18, Tryd.ntmps18
    go_wp2_with fail
    refine HAP.out.mono ?_
    rw [HA.out]
    rintro e w1 ⟨rfl, hb1⟩
    go_wp2
    go_ret
    exact ⟨by rw [HR.out]; rfl, hb1⟩
  · have HR : Hid (longC ps = mostTo ps n) := Lib.hid (by unfold longC; rw [ha, hl]; rfl)
    have HA := Lib.hid ha
    clear ha
    go_enter Tryd.func18, Tryd.ntmps18
    go_wp2_with fail
    refine HAP.out.mono ?_
    rw [HA.out]
    rintro e w1 ⟨rfl, hb1⟩
    have HL := Lib.hid (impl_longestC A n c B ps w1 (HP.out.below (hb1.mono hB)) (Nat.le_trans hB hb1.size) hn (HT.out.below hb1 (Nat.le_refl _)))
    go_wp2_with fail
    refine HL.out.mono ?_
    rintro e w2 ⟨rfl, hb2⟩
    go_wp2
    go_ret
    exact ⟨by rw [HR.out]; try rfl, hb1.trans (hb2.mono hb1.size)⟩
end Go.Proofs.YtdgpodopkfnpeabDoor
