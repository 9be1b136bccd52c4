/- Chapter 4's functions of the program: valid paths, places, packed paths. -/
import Derived.Test.YtgdficjihkglpadDoorPath
import Derived.Test.YtgdficjihkglpadDoorBit
namespace Go.Proofs.YtgdficjihkglpadDoor
open Go.RowKit
set_option linter.unusedVariables false

theorem impl_isArm (a : Int) (w : World) : Calls Tryd.prog 82 #[.int .i64 a] w fun e w' => e = .returned (.bool (inB a 0 3)) ∧ w = w' := by
  go_enter Tryd.func82, Tryd.ntmps82
  go_wp2_with fail
  refine (impl_InRange _ _ _ _).mono ?_
  rintro e w1 ⟨rfl, rfl⟩
  go_wp2
  go_ret
  exact ⟨rfl, rfl⟩
theorem impl_IsPath (p : Pth) (w : World) : Calls Tryd.prog 43 #[p.val] w fun e w' => e = .returned (.bool (isP p)) ∧ Below w.heap.size w w' := by
  obtain ⟨a, b, c, d⟩ := p
  simp only [Pth.val]
  have HI : Hid (isP ⟨a, b, c, d⟩ = (inB a 1 20 && inB b 1 3 && inB c 0 3 && inB d 0 3 && (decide (c = d) == decide (b = 2)))) := Lib.hid rfl
  go_enter Tryd.func43, Tryd.ntmps43
  go_wp2_with fail
  refine (impl_InRange _ _ _ _).mono ?_
  rintro e w1 ⟨rfl, rfl⟩
  cases h0 : inB a 1 20
  · rw [h0] at HI
    go_wp2
    go_ret
    exact ⟨by rw [HI.out]; simp, (Below.refl _ _).alloc (Nat.le_refl _) _⟩
  · rw [h0] at HI
    go_wp2_with fail
    refine (impl_InRange _ _ _ _).mono ?_
    rintro e w1 ⟨rfl, rfl⟩
    cases h1 : inB b 1 3
    · rw [h1] at HI
      go_wp2
      go_ret
      exact ⟨by rw [HI.out]; simp, (Below.refl _ _).alloc (Nat.le_refl _) _⟩
    · rw [h1] at HI
      go_wp2_with fail
      refine (impl_isArm _ _).mono ?_
      rintro e w1 ⟨rfl, rfl⟩
      cases h2 : inB c 0 3
      · rw [h2] at HI
        go_wp2
        go_ret
        exact ⟨by rw [HI.out]; simp, (Below.refl _ _).alloc (Nat.le_refl _) _⟩
      · rw [h2] at HI
        go_wp2_with fail
        refine (impl_isArm _ _).mono ?_
        rintro e w1 ⟨rfl, rfl⟩
        cases h3 : inB d 0 3
        · rw [h3] at HI
          go_wp2
          go_ret
          exact ⟨by rw [HI.out]; first | (simp; done) | (simp; rfl), (Below.refl _ _).alloc (Nat.le_refl _) _⟩
        · rw [h3] at HI
          go_wp2
          go_ret
          exact ⟨by rw [HI.out]; first | (simp; done) | (simp; rfl), (Below.refl _ _).alloc (Nat.le_refl _) _⟩
theorem impl_InPlace (a : Int) (w : World) : Calls Tryd.prog 99 #[.int .i64 a] w fun e w' => e = .returned (.int .i64 (inPl a)) ∧ w = w' := by
  have HM : Hid (inPl a = if inB a 0 3 then _ else -1) := Lib.hid rfl
  cases h : inB a 0 3
  · rw [h] at HM
    go_enter Tryd.func99, Tryd.ntmps99
    go_wp2_with fail
    refine (impl_isArm _ _).mono ?_
    rintro e w1 ⟨rfl, rfl⟩
    rw [h]
    go_wp2
    go_ret
    exact ⟨by rw [HM.out]; rfl, rfl⟩
  · rw [h] at HM
    obtain ⟨h1, h2⟩ := inB_t h
    go_enter Tryd.func99, Tryd.ntmps99
    go_wp2_with fail
    refine (impl_isArm _ _).mono ?_
    rintro e w1 ⟨rfl, rfl⟩
    rw [h]
    go_wp2
    go_ret
    exact ⟨by rw [HM.out]; rfl, rfl⟩
theorem impl_OutPlace (a : Int) (w : World) : Calls Tryd.prog 100 #[.int .i64 a] w fun e w' => e = .returned (.int .i64 (outPl a)) ∧ w = w' := by
  have HM : Hid (outPl a = if inB a 0 3 then _ else -1) := Lib.hid rfl
  cases h : inB a 0 3
  · rw [h] at HM
    go_enter Tryd.func100, Tryd.ntmps100
    go_wp2_with fail
    refine (impl_isArm _ _).mono ?_
    rintro e w1 ⟨rfl, rfl⟩
    rw [h]
    go_wp2
    go_ret
    exact ⟨by rw [HM.out]; rfl, rfl⟩
  · rw [h] at HM
    obtain ⟨h1, h2⟩ := inB_t h
    go_enter Tryd.func100, Tryd.ntmps100
    go_wp2_with fail
    refine (impl_isArm _ _).mono ?_
    rintro e w1 ⟨rfl, rfl⟩
    rw [h]
    go_wp2
    go_ret
    exact ⟨by rw [HM.out]; rfl, rfl⟩
theorem impl_pack (p : Pth) (w : World) : Calls Tryd.prog 66 #[p.val] w fun e w' => e = .returned (.int .i64 (packN p)) ∧ Below w.heap.size w w' := by
  have hno := fun h => Lib.hid (packN_no (p := p) h)
  have hyes := fun h => (Lib.hid (packN_yes (p := p) h).1)
  have hr := isP_facts p
  obtain ⟨a, b, c, d⟩ := p
  have hv : (Pth.mk a b c d).val = .agg #[.int .i64 a, .int .i64 b, .int .i64 c, .int .i64 d] := rfl
  rw [hv]
  go_enter Tryd.func66, Tryd.ntmps66
  go_wp2_with fail
  refine (impl_IsPath ⟨a, b, c, d⟩ _).mono ?_
  rintro e w1 ⟨rfl, hb⟩
  have hb1 := ((Below.refl _ _).alloc (Nat.le_refl _) _).trans (hb.mono (by simp))
  have c0 : w1.cell? ⟨w.heap.size, 0, none⟩ = some (.int .i64 a) := boxed hb 0
  have c1 : w1.cell? ⟨w.heap.size, 1, none⟩ = some (.int .i64 b) := boxed hb 1
  have c2 : w1.cell? ⟨w.heap.size, 2, none⟩ = some (.int .i64 c) := boxed hb 2
  have c3 : w1.cell? ⟨w.heap.size, 3, none⟩ = some (.int .i64 d) := boxed hb 3
  clear hb
  cases hp : isP ⟨a, b, c, d⟩
  · have HN := hno hp
    clear hno hyes hr
    go_wp2
    go_ret
    exact ⟨by rw [HN.out]; rfl, hb1⟩
  · have HY := hyes hp
    obtain ⟨⟨g1, g2⟩, ⟨g3, g4⟩, ⟨g5, g6⟩, ⟨g7, g8⟩, _⟩ := hr hp
    have o1 : bits .or .i64 (a * 4) b = a * 4 + b := or4 _ _ (by omega) (by omega) (by omega) (by omega) (by omega)
    have o2 : bits .or .i64 ((a * 4 + b) * 4) c = (a * 4 + b) * 4 + c := or4 _ _ (by omega) (by omega) (by omega) (by omega) (by omega)
    have o3 : bits .or .i64 (((a * 4 + b) * 4 + c) * 4) d = ((a * 4 + b) * 4 + c) * 4 + d := or4 _ _ (by omega) (by omega) (by omega) (by omega) (by omega)
    clear hno hyes hr
    go_wp2
    go_ret
    exact ⟨by rw [HY.out]; rfl, hb1⟩
theorem impl_kind (v : Int) (w : World) (h0 : 0 ≤ v) (h1 : v < 65536) : Calls Tryd.prog 67 #[.int .i64 v] w fun e w' => e = .returned (.int .i64 (v / 16 % 4)) ∧ w = w' := by
  have o1 : bits .and .i64 (v / 16) 3 = v / 16 % 4 := and3 _ (by omega) (by omega)
  go_enter Tryd.func67, Tryd.ntmps67
  go_wp2
  go_ret
  exact ⟨rfl, rfl⟩
theorem impl_from (v : Int) (w : World) (h0 : 0 ≤ v) (h1 : v < 65536) : Calls Tryd.prog 69 #[.int .i64 v] w fun e w' => e = .returned (.int .i64 (v / 4 % 4)) ∧ w = w' := by
  have o1 : bits .and .i64 (v / 4) 3 = v / 4 % 4 := and3 _ (by omega) (by omega)
  go_enter Tryd.func69, Tryd.ntmps69
  go_wp2
  go_ret
  exact ⟨rfl, rfl⟩
theorem impl_to (v : Int) (w : World) (h0 : 0 ≤ v) (h1 : v < 65536) : Calls Tryd.prog 97 #[.int .i64 v] w fun e w' => e = .returned (.int .i64 (v % 4)) ∧ w = w' := by
  have o1 : bits .and .i64 v 3 = v % 4 := and3 _ (by omega) (by omega)
  go_enter Tryd.func97, Tryd.ntmps97
  go_wp2
  go_ret
  exact ⟨rfl, rfl⟩
end Go.Proofs.YtgdficjihkglpadDoor
