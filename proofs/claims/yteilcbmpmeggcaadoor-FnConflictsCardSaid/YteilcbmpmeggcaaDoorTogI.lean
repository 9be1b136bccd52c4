/- IsTogether: the program; its exact law's contracts. -/
import Derived.Test.YteilcbmpmeggcaaDoorTogEq
import Derived.Test.YteilcbmpmeggcaaDoorPthM
namespace Go.Proofs.YteilcbmpmeggcaaDoor
open Go.RowKit
set_option linter.unusedVariables false

theorem impl_stageAmong (A : Option Addr) (n c B : Nat) (ps : List Pth) (A2 : Option Addr) (n2 c2 : Nat) (zs : List Int) (w : World) (h : PthsAt w B A n ps) (hB : B ≤ w.heap.size) (hn : n ≤ c ∧ c ≤ maxLen) (hn1 : n ≤ 4294967296) (h2 : IntsAt .i64 w w.heap.size A2 n2 zs) (hn2 : n2 ≤ 4294967296) (hw : Brus w) :
    Calls Tryd.prog 70 #[.slice A n c, .slice A2 n2 c2] w fun e w' => e = .returned (amongV A n c ps zs) ∧ Below w.heap.size w w' := by
  cases hp : arePs ps
  · exact impl_stageAmong_no A n c B ps A2 n2 c2 zs w h hB hn1 hp
  · exact impl_stageAmong_yes A n c B ps A2 n2 c2 zs w h hB hn hp h2 hn2 hw
/-- the three parts of what stageAmong answers. -/
theorem amongV_parts (A : Option Addr) (n c : Nat) (ps : List Pth) (hn : ps.length = n) (ids : List Int) : ∃ (A' : Option Addr) (n' c' m : Nat) (f : Nat → Nat), amongV A n c ps ids = .tuple #[.agg (xcells A' n' c' f).toArray, .int .u16 (m : Nat), .bool (isTog ps ids)] ∧
    (isTog ps ids = true → A' = A ∧ n' = n ∧ c' = c ∧ f = rowSt ps n 0 ∧ stI ps (rowSt ps n 0) ids = some m) := by
  subst hn
  rw [← togI_eq]
  unfold amongV togI
  cases ha : arePs ps
  · exact ⟨none, 0, 0, 0, fun _ => 0, rfl, fun h => by cases h⟩
  · cases hs : stI ps (rowSt ps ps.length 0) ids with
    | none => exact ⟨A, ps.length, c, 0, rowSt ps ps.length 0, by simp, fun h => by simp at h⟩
    | some m => exact ⟨A, ps.length, c, m, rowSt ps ps.length 0, by simp, fun _ => ⟨rfl, rfl, rfl, rfl, rfl⟩⟩
theorem impl_IsTogether (A : Option Addr) (n c B : Nat) (ps : List Pth) (A2 : Option Addr) (n2 c2 : Nat) (zs : List Int) (w : World) (h : PthsAt w B A n ps) (hB : B ≤ w.heap.size) (hn : n ≤ c ∧ c ≤ maxLen) (hn1 : n ≤ 4294967296) (h2 : IntsAt .i64 w w.heap.size A2 n2 zs) (hn2 : n2 ≤ 4294967296) (hw : Brus w) :
    Calls Tryd.prog 24 #[.slice A n c, .slice A2 n2 c2] w fun e w' => e = .returned (.bool (isTog ps zs)) ∧ Below w.heap.size w w' := by
  obtain ⟨A', n', c', m, f, hV, -⟩ := amongV_parts A n c ps h.1 zs
  obtain ⟨r, hr⟩ : ∃ r, isTog ps zs = r := ⟨_, rfl⟩
  rw [hr] at hV
  have HV := Lib.hid hV
  have HR := Lib.hid hr
  clear hV hr
  have HC := Lib.hid (fun x hx1 hx2 hx3 hx4 => impl_stageAmong A n c B ps A2 n2 c2 zs x hx1 hx2 hn hn1 hx3 hn2 hx4)
  have HP := Lib.hid h
  have HI := Lib.hid h2
  clear h h2
  go_enter Tryd.func24, Tryd.ntmps24
  go_wp2_with fail
  refine (HC.out w HP.out hB HI.out hw).mono ?_
  rw [HV.out, cross_lit]
  rintro e w1 ⟨rfl, hb⟩
  go_wp2
  go_ret
  exact ⟨by rw [HR.out]; rfl, hb.alloc hb.size _⟩
end Go.Proofs.YteilcbmpmeggcaaDoor
