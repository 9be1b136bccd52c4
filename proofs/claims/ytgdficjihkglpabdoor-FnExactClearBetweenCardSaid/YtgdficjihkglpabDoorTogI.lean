/- IsTogether: the program; its exact law's contracts. -/
import Derived.Test.YtgdficjihkglpabDoorTogEq
import Derived.Test.YtgdficjihkglpabDoorPthM
namespace Go.Proofs.YtgdficjihkglpabDoor
open Go.RowKit
set_option linter.unusedVariables false

theorem impl_stageAmong (A : Option Addr) (n c B : Nat) (ps : List Pth) (A2 : Option Addr) (n2 c2 : Nat) (zs : List Int) (w : World) (h : PthsAt w B A n ps) (hB : B ≤ w.heap.size) (hn : n ≤ c ∧ c ≤ maxLen) (hn1 : n ≤ 4294967296) (h2 : IntsAt .i64 w w.heap.size A2 n2 zs) (hn2 : n2 ≤ 4294967296) (hw : Brus w) :
    Calls Tryd.prog 44 #[.slice A n c, .slice A2 n2 c2] w fun e w' => e = .returned (amongV A n c ps zs) ∧ Below w.heap.size w w' := by
  cases hp : arePs ps
  · exact impl_stageAmong_no A n c B ps A2 n2 c2 zs w h hB hn1 hp
  · exact impl_stageAmong_yes A n c B ps A2 n2 c2 zs w h hB hn hp h2 hn2 hw
/-- the three parts of what stageAmong answers. -/
theorem amongV_parts (A : Option Addr) (n c : Nat) (ps : List Pth) (hn : ps.length = n) (ids : List Int) : ∃ (A' : Option Addr) (n' c' m : Nat) (f : Nat → Nat), amongV A n c ps ids = .tuple #[.agg (xcells A' n' c' f).toArray, .int .u16 (m : Nat), .bool (isTog ps ids)] ∧
    (isTog ps ids = true → A' = A ∧ n' = n ∧ c' = c ∧ f = rowSt ps n 0 ∧ stI ps (rowSt ps n 0) ids = some m) := by
  subst hn
  rw [← togI_eq]
  unfold amongV togI
  cases ha : arePs ps
  · exact ⟨none, 0, 0, 0, fun _ => 0, rfl, fun h => by cases h⟩
  · cases hs : stI ps (rowSt ps ps.length 0) ids with
    | none => exact ⟨A, ps.length, c, 0, rowSt ps ps.length 0, by simp, fun h => by simp at h⟩
    | some m => exact ⟨A, ps.length, c, m, rowSt ps ps.length 0, by simp, fun _ => ⟨rfl, rfl, rfl, rfl, rfl⟩⟩
theorem impl_IsTogether (A : Option Addr) (n c B : Nat) (ps : List Pth) (A2 : Option Addr) (n2 c2 : Nat) (zs : List Int) (w : World) (h : PthsAt w B A n ps) (hB : B ≤ w.heap.size) (hn : n ≤ c ∧ c ≤ maxLen) (hn1 : n ≤ 4294967296) (h2 : IntsAt .i64 w w.heap.size A2 n2 zs) (hn2 : n2 ≤ 4294967296) (hw : Brus w) :
    Calls Tryd.prog 20 #[.slice A n c, .slice A2 n2 c2] w fun e w' => e = .returned (.bool (isTog ps zs)) ∧ Below w.heap.size w w' := by
  obtain ⟨A', n', c', m, f, hV, -⟩ := amongV_parts A n c ps h.1 zs
  obtain ⟨r, hr⟩ : ∃ r, isTog ps zs = r := ⟨_, rfl⟩
  rw [hr] at hV
  have HV := Lib.hid hV
  have HR := Lib.hid hr
  clear hV hr
  have HC := Lib.hid (fun x hx1 hx2 hx3 hx4 => impl_stageAmong A n c B ps A2 n2 c2 zs x hx1 hx2 hn hn1 hx3 hn2 hx4)
  have HP := Lib.hid h
  have HI := Lib.hid h2
  clear h h2
  go_enter Tryd.func20, Tryd.ntmps20
  go_wp2_with fail
  refine (HC.out w HP.out hB HI.out hw).mono ?_
  rw [HV.out, cross_lit]
  rintro e w1 ⟨rfl, hb⟩
  go_wp2
  go_ret
  exact ⟨by rw [HR.out]; rfl, hb.alloc hb.size _⟩
theorem sp_IsTogether (A0 : Option Addr) (n0 c0 : Nat) (zs0 : List Pth) (A1 : Option Addr) (n1 c1 : Nat) (zs1 : List Int) (w : World) (h0 : SlP w A0 n0 c0 zs0) (hs0 : n0 ≤ 1048576) (h1 : Sl .i64 w A1 n1 c1 zs1) (hs1 : n1 ≤ 1048576) (r : Bool) (hr : isTog zs0 zs1 = r) :
    Calls Tryd.prog 18 #[.slice A0 n0 c0, .slice A1 n1 c1] w fun e w' => e = .returned (.bool r) ∧ Below w.heap.size w w' := by
  subst hr
  exact spec_IsTogether A0 n0 c0 _ zs0 A1 n1 c1 _ zs1 w h0.pths h1.ints (Nat.le_refl _) (Nat.le_refl _) h0.small (by omega)
theorem im_IsTogether (A0 : Option Addr) (n0 c0 : Nat) (zs0 : List Pth) (A1 : Option Addr) (n1 c1 : Nat) (zs1 : List Int) (w : World) (h0 : SlP w A0 n0 c0 zs0) (hs0 : n0 ≤ 1048576) (h1 : Sl .i64 w A1 n1 c1 zs1) (hs1 : n1 ≤ 1048576) (hv : Brus w) (r : Bool) (hr : isTog zs0 zs1 = r) :
    Calls Tryd.prog 20 #[.slice A0 n0 c0, .slice A1 n1 c1] w fun e w' => e = .returned (.bool r) ∧ Below w.heap.size w w' := by
  subst hr
  exact impl_IsTogether A0 n0 c0 _ zs0 A1 n1 c1 zs1 w h0.pths (Nat.le_refl _) h0.cap h0.small h1.ints (by omega) hv
end Go.Proofs.YtgdficjihkglpabDoor
